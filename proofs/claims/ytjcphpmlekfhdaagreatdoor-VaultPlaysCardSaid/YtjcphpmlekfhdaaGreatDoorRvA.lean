/- The reference's disk beside blocks that are none of its own. No condition but bounds. -/
import Derived.Test.YtjcphpmlekfhdaaGreatDoorRfO
import Derived.Test.YtjcphpmlekfhdaaGreatDoorRvF
namespace Go.Proofs.YtjcphpmlekfhdaaGreatDoor
open Go.RowKit

def Rp (w0 : World) (r : Nat) (X : Nat → Prop) (S : Dk) (w : World) : Prop := ∃ G, Rsk w0 r G S w ∧ ∀ b, X b → ¬ G b ∧ b < w.heap.size
def RStep (w0 : World) (r : Nat) (X : Nat → Prop) (w : World) (x : Int) (S : Dk) (e : Ending) (W : World) : Prop := e = .returned (.int .i64 x) ∧ Rp w0 r X S W ∧ Kept X w W
/-- What is loose is not too much. -/
structure Ltr (S : Dk) : Prop where
  cnt : S.cnt ≤ 1073741822
  uses : S.uses ≤ 1073741823
section
variable {w0 w w1 W : World} {r : Nat} {X Y : Nat → Prop} {S S' : Dk} {G : Nat → Prop}
theorem RDid.p (h : RDid w0 r G w S W) (hX : ∀ b, X b → ¬ G b ∧ b < w.heap.size) : Rp w0 r X S W ∧ Kept X w W :=
  ⟨⟨_, h.dsk, fun b hb => ⟨Gr.not (hX b hb).1 (hX b hb).2, Nat.lt_of_lt_of_le (hX b hb).2 h.kept.size⟩⟩, h.kept.weak fun b hb _ => (hX b hb).1⟩
theorem Rp.bel (D : Rp w0 r X S w) : Below w0.heap.size w0 w := by obtain ⟨G, D, _⟩ := D; exact D.bel
theorem Rp.ok (D : Rp w0 r X S w) : S.Ok := by obtain ⟨G, D, _⟩ := D; exact D.ok
theorem Rp.inn (D : Rp w0 r X S w) : ∀ b, X b → b < w.heap.size := by obtain ⟨G, _, h⟩ := D; exact fun b hb => (h b hb).2
theorem Rp.later (D : Rp w0 r X S w) (g : Below w.heap.size w w1) : Rp w0 r X S w1 := by
  obtain ⟨G, D, h⟩ := D
  exact ⟨G, D.later g, fun b hb => ⟨(h b hb).1, Nat.lt_of_lt_of_le (h b hb).2 g.size⟩⟩
theorem Rp.narrow (D : Rp w0 r X S w) (h : ∀ b, Y b → X b) : Rp w0 r Y S w := by
  obtain ⟨G, D, q⟩ := D
  exact ⟨G, D, fun b hb => q b (h b hb)⟩
theorem Rp.keep (D : Rp w0 r X S w) (g : Kept (fun b => ¬ X b) w w1) (hb : Below w0.heap.size w0 w1) : Rp w0 r X S w1 := by
  obtain ⟨G, D, h⟩ := D
  exact ⟨G, D.keep (g.weak fun b hF _ q => (h b q).1 hF) hb, fun b hX => ⟨(h b hX).1, Nat.lt_of_lt_of_le (h b hX).2 g.size⟩⟩
theorem Rp.wide (D : Rp w0 r X S w) (g : Kept (fun b => ¬ X b) w w1) (hb : Below w0.heap.size w0 w1) (h1 : ∀ b, Y b → X b ∨ (w.heap.size ≤ b ∧ b < w1.heap.size)) : Rp w0 r Y S w1 := by
  obtain ⟨G, D, h⟩ := D
  refine ⟨G, D.keep (g.weak fun b hF _ q => (h b q).1 hF) hb, fun b hY => ?_⟩
  rcases h1 b hY with q | q
  · exact ⟨(h b q).1, Nat.lt_of_lt_of_le (h b q).2 g.size⟩
  · refine ⟨fun hF => ?_, q.2⟩
    obtain ⟨_, _, _, _, hL⟩ := D
    have := (hL b hF).2
    omega
theorem rcut_p (D : Rp w0 r X S w) (lt : Ltr S) (f n : Int) {x : Int} (hx : (S.cut f n).1 = x) (hs : (S.cut f n).2 = S') :
    Calls Tryz.prog 60 #[.pointer (some ⟨r, 0, none⟩), .int .i64 f, .int .i64 n] w (RStep w0 r X w x S') := by
  obtain ⟨G, D, hX⟩ := D
  subst hx hs
  exact (rcut_any D lt.cnt lt.uses f n).mono fun e W ⟨h1, h2⟩ => ⟨h1, h2.p hX⟩
theorem rsync_p (D : Rp w0 r X S w) (lt : Ltr S) (f : Int) {x : Int} (hx : (S.sync f).1 = x) (hs : (S.sync f).2 = S') :
    Calls Tryz.prog 57 #[.pointer (some ⟨r, 0, none⟩), .int .i64 f] w (RStep w0 r X w x S') := by
  obtain ⟨G, D, hX⟩ := D
  subst hx hs
  exact (rsync_any D lt.cnt lt.uses f).mono fun e W ⟨h1, h2⟩ => ⟨h1, h2.p hX⟩
theorem rwrite_p (D : Rp w0 r X S w) (lt : Ltr S) (f : Int) {A : Option Addr} {n c : Nat} {L : List Nat} (hL : Bs w A n L) (hA : ∀ a, A = some a → X a.block) {x : Int} (hx : (S.write f L).1 = x) (hs : (S.write f L).2 = S') :
    Calls Tryz.prog 64 #[.pointer (some ⟨r, 0, none⟩), .int .i64 f, .slice A n c] w (RStep w0 r X w x S') := by
  obtain ⟨G, D, hX⟩ := D
  subst hx hs
  exact (rwrite_any D lt.cnt lt.uses f hL (fun _ a e hg => (hX _ (hA a e)).1 hg)).mono fun e W ⟨h1, h2⟩ => ⟨h1, h2.p hX⟩
theorem rroom_p (D : Rp w0 r X S w) (lt : Ltr S) : Calls Tryz.prog 23 #[.pointer (some ⟨r, 0, none⟩)] w fun e W => e = .returned (.int .i64 (S.room : Nat)) ∧ Below w.heap.size w W := by
  obtain ⟨G, D, hX⟩ := D
  exact rroom_any D (by have := lt.cnt; omega) lt.uses
theorem rread_p (D : Rp w0 r X S w) (lt : Ltr S) (f : Int) : Calls Tryz.prog 25 #[.pointer (some ⟨r, 0, none⟩), .int .i64 f] w (RRd w (S.read f).1 (S.read f).2) := by
  obtain ⟨G, D, hX⟩ := D
  exact rread_any D (by have := lt.cnt; omega) lt.uses f
theorem rstands_p (D : Rp w0 r X S w) (lt : Ltr S) {i : Nat} (hi : i ≤ 1) : Calls Tryz.prog 54 #[.pointer (some ⟨r, 0, none⟩), .int .i64 (i : Nat)] w fun e W => e = .returned (.string (strB (S.at i).at)) ∧ Below w.heap.size w W := by
  obtain ⟨G, D, hX⟩ := D
  exact rstands_any D (by omega) (by have := lt.cnt; omega) lt.uses
set_option maxRecDepth 100000 in
set_option maxHeartbeats 4000000 in
/-- A file is cut, unless it is as long already. -/
theorem rcutTo_p (D : Rp w0 r X S w) (lt : Ltr S) {i : Nat} (hi : i ≤ 1) (n : Nat) {x : Int} (hx : (S.cutTo i (S.at i).at.length n).1 = x) (hs : (S.cutTo i (S.at i).at.length n).2 = S') :
    Calls Tryz.prog 56 #[.pointer (some ⟨r, 0, none⟩), .int .i64 (i : Nat), .int .i64 (n : Nat)] w (RStep w0 r X w x S') := by
  have CS := Lib.hid (rstands_p D lt hi)
  have hsz : (strB (S.at i).at).size = (S.at i).at.length := strB_size _
  have HD := Lib.hid D
  have HLT := Lib.hid lt
  unfold Dk.cutTo at hx hs
  obtain ⟨m, hm⟩ : ∃ m, (S.at i).at.length = m := ⟨_, rfl⟩
  obtain ⟨s, hs1⟩ : ∃ s, strB (S.at i).at = s := ⟨_, rfl⟩
  rw [hm] at hx hs hsz
  rw [hs1] at hsz CS
  clear D lt hm hs1
  by_cases h : m = n
  · rw [if_pos h] at hx hs
    subst hx hs
    have t1 : ((m : Int) == (n : Int)) = true := by rw [beq_iff_eq]; omega
    clear h
    go_enter Tryz.func56, Tryz.ntmps56
    go_wp2_with fail
    refine (CS.out).mono ?_
    rintro e w1 ⟨rfl, b1⟩
    have B1 := Lib.hid b1
    clear b1
    go_wp2_with fail
    go_ret
    exact ⟨rfl, HD.out.later B1.out, Kept.of_below B1.out⟩
  · rw [if_neg h] at hx hs
    have t1 : ((m : Int) == (n : Int)) = false := by rw [beq_eq_false_iff_ne]; omega
    have HX := Lib.hid hx
    have HS := Lib.hid hs
    clear h hx hs
    go_enter Tryz.func56, Tryz.ntmps56
    go_wp2_with fail
    refine (CS.out).mono ?_
    rintro e w1 ⟨rfl, b1⟩
    have B1 := Lib.hid b1
    clear b1
    go_wp2_with fail
    refine (rcut_p (HD.out.later B1.out) HLT.out (i : Nat) (n : Nat) HX.out HS.out).mono ?_
    rintro e w2 ⟨rfl, D2, K2⟩
    have D2' := Lib.hid D2
    have K2' := Lib.hid K2
    clear D2 K2
    go_wp2_with fail
    go_ret
    exact ⟨rfl, D2'.out, (Kept.of_below B1.out).trans' K2'.out⟩
end
end Go.Proofs.YtjcphpmlekfhdaaGreatDoor
