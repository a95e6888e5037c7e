/- Two disks side by side: the program's and the reference's. No condition but bounds. -/
import Derived.Test.YtjcphpmlekfhdaaGreatDoorRvB
import Derived.Test.YtjcphpmlekfhdaaGreatDoorStq
namespace Go.Proofs.YtjcphpmlekfhdaaGreatDoor
open Go.RowKit

/-- What is loose is not too much. -/
def Lt (S : Dk) : Prop := S.cnt ≤ 1073741822 ∧ S.uses ≤ 1073741823
/-- The program's disk at S and the reference's at T, and X beside both. -/
def Two (w0 : World) (d r : Nat) (X : Nat → Prop) (S T : Dk) (w : World) : Prop :=
  ∃ F G, Dsk w0 d F S w ∧ Rsk w0 r G T w ∧ (∀ b, F b → ¬ G b) ∧ ∀ b, X b → ¬ F b ∧ ¬ G b ∧ b < w.heap.size
section
variable {w0 w W : World} {d r : Nat} {X F G : Nat → Prop} {S T' : Dk}
theorem Two.bel (T : Two w0 d r X S T' w) : Below w0.heap.size w0 w := by obtain ⟨_, _, D, _⟩ := T; exact D.bel
theorem Two.later (T : Two w0 d r X S T' w) (g : Below w.heap.size w W) : Two w0 d r X S T' W := by
  obtain ⟨F, G, D, K, ap, hX⟩ := T
  exact ⟨F, G, D.later g, K.later g, ap, fun b hb => ⟨(hX b hb).1, (hX b hb).2.1, Nat.lt_of_lt_of_le (hX b hb).2.2 g.size⟩⟩
theorem Two.less {Y : Nat → Prop} (T : Two w0 d r X S T' w) (h : ∀ b, Y b → X b) : Two w0 d r Y S T' w := by
  obtain ⟨F, G, D, K, ap, hX⟩ := T
  exact ⟨F, G, D, K, ap, fun b hb => hX b (h b hb)⟩
/-- What is new is beside both. -/
theorem Two.wide (T : Two w0 d r X S T' w) (g : Below w.heap.size w W) : Two w0 d r (fun b => X b ∨ (w.heap.size ≤ b ∧ b < W.heap.size)) S T' W := by
  obtain ⟨F, G, D, K, ap, hX⟩ := T
  refine ⟨F, G, D.later g, K.later g, ap, fun b hb => ?_⟩
  rcases hb with hb | hb
  · exact ⟨(hX b hb).1, (hX b hb).2.1, Nat.lt_of_lt_of_le (hX b hb).2.2 g.size⟩
  · refine ⟨fun h => ?_, fun h => ?_, hb.2⟩
    · obtain ⟨_, _, _, _, _, _, _, _, hl⟩ := D
      have := (hl _ h).2
      omega
    · obtain ⟨_, _, _, _, hl⟩ := K
      have := (hl _ h).2
      omega
theorem two_did {S' : Dk} (D : Dsk w0 d F S w) (K : Rsk w0 r G T' w) (ap : ∀ b, F b → ¬ G b) (hX : ∀ b, X b → ¬ F b ∧ ¬ G b ∧ b < w.heap.size) (h : Did w0 d F w S' W) : Two w0 d r X S' T' W ∧ Kept X w W := by
  refine ⟨⟨_, G, h.dsk, K.keep (h.kept.weak fun b hb _ hf => ap b hf hb) h.dsk.bel, fun b hf hg => ?_, fun b hb => ⟨Gr.not (hX b hb).1 (hX b hb).2.2, (hX b hb).2.1, Nat.lt_of_lt_of_le (hX b hb).2.2 h.kept.size⟩⟩, h.kept.weak fun b hb _ => (hX b hb).1⟩
  rcases hf with hf | hf
  · exact ap b hf hg
  · obtain ⟨_, _, _, _, hl⟩ := K
    have := (hl _ hg).2
    omega
theorem two_rdid {S' : Dk} (D : Dsk w0 d F T' w) (K : Rsk w0 r G S w) (ap : ∀ b, F b → ¬ G b) (hX : ∀ b, X b → ¬ F b ∧ ¬ G b ∧ b < w.heap.size) (h : RDid w0 r G w S' W) : Two w0 d r X T' S' W ∧ Kept X w W := by
  refine ⟨⟨F, _, D.keep (h.kept.weak fun b hb _ hg => ap b hb hg) h.dsk.bel, h.dsk, fun b hf hg => ?_, fun b hb => ⟨(hX b hb).1, Gr.not (hX b hb).2.1 (hX b hb).2.2, Nat.lt_of_lt_of_le (hX b hb).2.2 h.kept.size⟩⟩, h.kept.weak fun b hb _ => (hX b hb).2.1⟩
  rcases hg with hg | hg
  · exact ap b hf hg
  · obtain ⟨_, _, _, _, _, _, _, _, hl⟩ := D
    have := (hl _ hf).2
    omega
theorem cut_two (T : Two w0 d r X S T' w) (lt : Lt S) (f n : Int) : Calls Tryz.prog 52 #[.pointer (some ⟨d, 0, none⟩), .int .i64 f, .int .i64 n] w fun e W => e = .returned (.int .i64 (S.cut f n).1) ∧ Two w0 d r X (S.cut f n).2 T' W ∧ Kept X w W := by
  obtain ⟨F, G, D, K, ap, hX⟩ := T
  exact (cut_any D (by have := lt.1; omega) f n).mono fun e W ⟨h1, h2⟩ => ⟨h1, two_did D K ap hX h2⟩
theorem rcut_two (T : Two w0 d r X T' S w) (lt : Lt S) (f n : Int) : Calls Tryz.prog 60 #[.pointer (some ⟨r, 0, none⟩), .int .i64 f, .int .i64 n] w fun e W => e = .returned (.int .i64 (S.cut f n).1) ∧ Two w0 d r X T' (S.cut f n).2 W ∧ Kept X w W := by
  obtain ⟨F, G, D, K, ap, hX⟩ := T
  exact (rcut_any K lt.1 lt.2 f n).mono fun e W ⟨h1, h2⟩ => ⟨h1, two_rdid D K ap hX h2⟩
theorem sync_two (T : Two w0 d r X S T' w) (lt : Lt S) (f : Int) : Calls Tryz.prog 35 #[.pointer (some ⟨d, 0, none⟩), .int .i64 f] w fun e W => e = .returned (.int .i64 (S.sync f).1) ∧ Two w0 d r X (S.sync f).2 T' W ∧ Kept X w W := by
  obtain ⟨F, G, D, K, ap, hX⟩ := T
  exact (sync_any D (by have := lt.1; omega) f).mono fun e W ⟨h1, h2⟩ => ⟨h1, two_did D K ap hX h2⟩
theorem rsync_two (T : Two w0 d r X T' S w) (lt : Lt S) (f : Int) : Calls Tryz.prog 57 #[.pointer (some ⟨r, 0, none⟩), .int .i64 f] w fun e W => e = .returned (.int .i64 (S.sync f).1) ∧ Two w0 d r X T' (S.sync f).2 W ∧ Kept X w W := by
  obtain ⟨F, G, D, K, ap, hX⟩ := T
  exact (rsync_any K lt.1 lt.2 f).mono fun e W ⟨h1, h2⟩ => ⟨h1, two_rdid D K ap hX h2⟩
theorem fuse_two (T : Two w0 d r X S T' w) (n : Int) (hn : -9223372036854775808 ≤ n ∧ n ≤ 9223372036854775807) : Calls Tryz.prog 21 #[.pointer (some ⟨d, 0, none⟩), .int .i64 n] w fun e W => e = .returned (.int .i64 (S.setFuse n).1) ∧ Two w0 d r X (S.setFuse n).2 T' W ∧ Kept X w W := by
  obtain ⟨F, G, D, K, ap, hX⟩ := T
  exact (fuse_any D n hn).mono fun e W ⟨h1, h2⟩ => ⟨h1, two_did D K ap hX h2⟩
theorem rfuse_two (T : Two w0 d r X T' S w) (n : Int) (hn : -9223372036854775808 ≤ n ∧ n ≤ 9223372036854775807) : Calls Tryz.prog 61 #[.pointer (some ⟨r, 0, none⟩), .int .i64 n] w fun e W => e = .returned (.int .i64 (S.setFuse n).1) ∧ Two w0 d r X T' (S.setFuse n).2 W ∧ Kept X w W := by
  obtain ⟨F, G, D, K, ap, hX⟩ := T
  exact (rfuse_any K n hn).mono fun e W ⟨h1, h2⟩ => ⟨h1, two_rdid D K ap hX h2⟩
theorem off_two (T : Two w0 d r X S T' w)  : Calls Tryz.prog 17 #[.pointer (some ⟨d, 0, none⟩)] w fun e W => e = .returned (.int .i64 (S.goOff).1) ∧ Two w0 d r X (S.goOff).2 T' W ∧ Kept X w W := by
  obtain ⟨F, G, D, K, ap, hX⟩ := T
  exact (off_any D).mono fun e W ⟨h1, h2⟩ => ⟨h1, two_did D K ap hX h2⟩
theorem roff_two (T : Two w0 d r X T' S w)  : Calls Tryz.prog 62 #[.pointer (some ⟨r, 0, none⟩)] w fun e W => e = .returned (.int .i64 (S.goOff).1) ∧ Two w0 d r X T' (S.goOff).2 W ∧ Kept X w W := by
  obtain ⟨F, G, D, K, ap, hX⟩ := T
  exact (roff_any K).mono fun e W ⟨h1, h2⟩ => ⟨h1, two_rdid D K ap hX h2⟩
theorem write_two (T : Two w0 d r X S T' w) (lt : Lt S) (f : Int) {A : Option Addr} {m c : Nat} {L : List Nat} (hL : Bs w A m L) (hA : 0 < m → ∀ a, A = some a → a.block < w0.heap.size) (hc : m ≤ c) (hcm : c ≤ 9223372036854775807) : Calls Tryz.prog 41 #[.pointer (some ⟨d, 0, none⟩), .int .i64 f, .slice A m c] w fun e W => e = .returned (.int .i64 (S.write f L).1) ∧ Two w0 d r X (S.write f L).2 T' W ∧ Kept X w W := by
  obtain ⟨F, G, D, K, ap, hX⟩ := T
  exact (write_any D (by have := lt.1; omega) f hL (fun h0 a e => by have := hA h0 a e; have := D.at_.2.1; omega) hc hcm).mono fun e W ⟨h1, h2⟩ => ⟨h1, two_did D K ap hX h2⟩
theorem rwrite_two (T : Two w0 d r X T' S w) (lt : Lt S) (f : Int) {A : Option Addr} {m c : Nat} {L : List Nat} (hL : Bs w A m L) (hA : 0 < m → ∀ a, A = some a → a.block < w0.heap.size) (hc : m ≤ c) (hcm : c ≤ 9223372036854775807) : Calls Tryz.prog 64 #[.pointer (some ⟨r, 0, none⟩), .int .i64 f, .slice A m c] w fun e W => e = .returned (.int .i64 (S.write f L).1) ∧ Two w0 d r X T' (S.write f L).2 W ∧ Kept X w W := by
  obtain ⟨F, G, D, K, ap, hX⟩ := T
  exact (rwrite_any K lt.1 lt.2 f hL (fun h0 a e hg => by have := hA h0 a e; obtain ⟨_, _, _, _, hl⟩ := K; have := (hl _ hg).1; omega)).mono fun e W ⟨h1, h2⟩ => ⟨h1, two_rdid D K ap hX h2⟩
theorem on_two (T : Two w0 d r X S T' w) (lt : Lt S) {A : Option Addr} {m c : Nat} {p : List Int} (hL : Zs w A m p) (hA : 0 < m → ∀ a, A = some a → a.block < w0.heap.size) (hc : m ≤ c) (hcm : c ≤ 9223372036854775807) : Calls Tryz.prog 18 #[.pointer (some ⟨d, 0, none⟩), .slice A m c] w fun e W => e = .returned (.int .i64 (S.goOn p).1) ∧ Two w0 d r X (S.goOn p).2 T' W ∧ Kept X w W := by
  obtain ⟨F, G, D, K, ap, hX⟩ := T
  exact (on_any D (by have := lt.1; omega) hL (fun h0 a e hg => by have := hA h0 a e; obtain ⟨_, _, _, _, _, _, _, _, hl⟩ := D; have := (hl _ hg).1; omega) hc hcm).mono fun e W ⟨h1, h2⟩ => ⟨h1, two_did D K ap hX h2⟩
theorem ron_two (T : Two w0 d r X T' S w) (lt : Lt S) {A : Option Addr} {m c : Nat} {p : List Int} (hL : Zs w A m p) (hA : 0 < m → ∀ a, A = some a → a.block < w0.heap.size) (hc : m ≤ c) (hcm : c ≤ 9223372036854775807) : Calls Tryz.prog 63 #[.pointer (some ⟨r, 0, none⟩), .slice A m c] w fun e W => e = .returned (.int .i64 (S.goOn p).1) ∧ Two w0 d r X T' (S.goOn p).2 W ∧ Kept X w W := by
  obtain ⟨F, G, D, K, ap, hX⟩ := T
  exact (ron_any K lt.1 lt.2 hL (fun h0 a e hg => by have := hA h0 a e; obtain ⟨_, _, _, _, hl⟩ := K; have := (hl _ hg).1; omega)).mono fun e W ⟨h1, h2⟩ => ⟨h1, two_rdid D K ap hX h2⟩
theorem read_two (T : Two w0 d r X S T' w) (lt : Lt S) (f : Int) : Calls Tryz.prog 24 #[.pointer (some ⟨d, 0, none⟩), .int .i64 f] w (RRd w (S.read f).1 (S.read f).2) := by
  obtain ⟨F, G, D, K, ap, hX⟩ := T
  exact (read_any D (by have := lt.1; omega) f).mono fun e W ⟨A, n, c, h1, h2, h3⟩ => ⟨A, n, c, h1, h3.reads, h3.bel⟩
theorem rread_two (T : Two w0 d r X T' S w) (lt : Lt S) (f : Int) : Calls Tryz.prog 25 #[.pointer (some ⟨r, 0, none⟩), .int .i64 f] w (RRd w (S.read f).1 (S.read f).2) := by
  obtain ⟨F, G, D, K, ap, hX⟩ := T
  exact rread_any K (by have := lt.1; omega) lt.2 f
theorem room_two (T : Two w0 d r X S T' w) : Calls Tryz.prog 16 #[.pointer (some ⟨d, 0, none⟩)] w fun e W => e = .returned (.int .i64 (S.room : Nat)) ∧ Below w.heap.size w W := by
  obtain ⟨F, G, D, K, ap, hX⟩ := T
  exact room_any D
theorem rroom_two (T : Two w0 d r X T' S w) (lt : Lt S) : Calls Tryz.prog 23 #[.pointer (some ⟨r, 0, none⟩)] w fun e W => e = .returned (.int .i64 (S.room : Nat)) ∧ Below w.heap.size w W := by
  obtain ⟨F, G, D, K, ap, hX⟩ := T
  exact rroom_any K (by have := lt.1; omega) lt.2
end
/-- What a step makes of a disk. -/
def Dk.step (S : Dk) (s : StepD) : Dk :=
  if s.k % 8 = 2 then (S.cut s.f s.n).2 else if s.k % 8 = 3 then (S.sync s.f).2 else if s.k % 8 = 4 then S else if s.k % 8 = 5 then (S.setFuse s.n).2 else if s.k % 8 = 6 then S.goOff.2 else if s.k % 8 = 7 then (S.goOn s.p).2 else (S.write s.f s.b).2
def wt (s : StepD) : Nat := 16 + s.b.length + s.p.length
theorem step_uses (S : Dk) (s : StepD) : (S.step s).cnt ≤ S.cnt + wt s ∧ (S.step s).uses ≤ S.uses + wt s := by
  have hw : 16 ≤ wt s := by unfold wt; omega
  have h0 : S.cnt ≤ S.cnt + wt s ∧ S.uses ≤ S.uses + wt s := ⟨Nat.le_add_right _ _, Nat.le_add_right _ _⟩
  unfold Dk.step
  split
  · unfold Dk.cut
    split
    · exact h0
    · split
      · exact h0
      · refine ⟨Nat.le_trans (Dk.cnt_burn _ _ _ (by simp [Fl.add])) (by omega), Nat.le_trans (rburn_uses S _ _ (k := 1) ?_) (by omega)⟩
        simp only [Fl.add, usum_app, usum, units]; omega
  split
  · unfold Dk.sync
    split
    · exact h0
    · refine ⟨Nat.le_trans (Dk.cnt_burn _ _ _ (by simp [Fl.settle])) (by omega), Nat.le_trans (rburn_uses S _ _ (k := 1) ?_) (by omega)⟩
      simp [Fl.settle, usum]
  split
  · exact h0
  split
  · unfold Dk.setFuse
    split <;> exact h0
  split
  · unfold Dk.goOff
    split <;> exact h0
  split
  · unfold Dk.goOn
    split
    · exact ⟨Nat.zero_le _, Nat.zero_le _⟩
    · exact h0
  · unfold Dk.write
    split
    · exact h0
    · split
      · exact h0
      · refine ⟨Nat.le_trans (Dk.cnt_burn _ _ _ (by simp [Fl.add])) (by omega), rburn_uses S _ _ (k := wt s) ?_⟩
        simp only [Fl.add, usum_app, usum, units, wt]; omega
end Go.Proofs.YtjcphpmlekfhdaaGreatDoor
