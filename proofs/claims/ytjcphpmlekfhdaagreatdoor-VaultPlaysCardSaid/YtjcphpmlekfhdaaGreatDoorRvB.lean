/- A vault's begin, as the reference says it. No condition but bounds. -/
import Derived.Test.YtjcphpmlekfhdaaGreatDoorRvA
import Derived.Test.YtjcphpmlekfhdaaGreatDoorGh
import Derived.Test.YtjcphpmlekfhdaaGreatDoorGl
namespace Go.Proofs.YtjcphpmlekfhdaaGreatDoor
open Go.RowKit

theorem rburn_uses (S : Dk) (i : Nat) (x : Fl) {k : Nat} (h : usum x.loose ≤ usum (S.at i).loose + k) : (S.burn i x).2.uses ≤ S.uses + k := by
  unfold Dk.burn
  split
  · show S.uses ≤ _; omega
  · show (Dk.put _ i x).uses ≤ _
    unfold Dk.at at h
    unfold Dk.put Dk.uses
    split at h <;> simp_all <;> omega
theorem rburn_most (S : Dk) (i : Nat) (x : Fl) : (S.burn i x).2.most = S.most := by
  unfold Dk.burn
  split
  · rfl
  · show (Dk.put _ i x).most = _
    unfold Dk.put
    split <;> rfl
/-- Bounds that grow step by step. -/
structure Ltk (k : Nat) (S : Dk) : Prop where
  cnt : S.cnt ≤ 1000000000 + k
  uses : S.uses ≤ 900000000 + 5000000 * k
  most : S.most ≤ 4194304
section
variable {k : Nat} {S : Dk}
theorem Ltk.lt (h : Ltk k S) (hk : k ≤ 30) : Ltr S := ⟨by have := h.cnt; omega, by have := h.uses; omega⟩
theorem Ltk.more (h : Ltk k S) : Ltk (k + 1) S := ⟨by have := h.cnt; omega, by have := h.uses; omega, h.most⟩
theorem Ltk.cut (h : Ltk k S) (f n : Int) : Ltk (k + 1) (S.cut f n).2 := by
  unfold Dk.cut
  split
  · exact h.more
  · split
    · exact h.more
    · refine ⟨?_, ?_, ?_⟩
      · have h1 := Dk.cnt_burn S f.toNat ((S.at f.toNat).add (.c n.toNat)) (by simp [Fl.add])
        have := h.cnt
        omega
      · have h1 := rburn_uses S f.toNat ((S.at f.toNat).add (.c n.toNat)) (k := 1) (by simp only [Fl.add, usum_app, usum, units]; omega)
        have := h.uses
        omega
      · rw [rburn_most]; exact h.most
theorem Ltk.sync (h : Ltk k S) (f : Int) : Ltk (k + 1) (S.sync f).2 := by
  unfold Dk.sync
  split
  · exact h.more
  · refine ⟨?_, ?_, ?_⟩
    · have h1 := Dk.cnt_burn S f.toNat (S.at f.toNat).settle (by simp [Fl.settle])
      have := h.cnt
      omega
    · have h1 := rburn_uses S f.toNat (S.at f.toNat).settle (k := 0) (by simp [Fl.settle, usum])
      have := h.uses
      omega
    · rw [rburn_most]; exact h.most
theorem Ltk.write (h : Ltk k S) (f : Int) (b : List Nat) : Ltk (k + 1) (S.write f b).2 := by
  unfold Dk.write
  split
  · exact h.more
  · split
    · exact h.more
    · rename_i hr
      have hrm : S.room ≤ S.most := by unfold Dk.room; omega
      have hm := h.most
      refine ⟨?_, ?_, ?_⟩
      · have h1 := Dk.cnt_burn S f.toNat ((S.at f.toNat).add (.w b)) (by simp [Fl.add])
        have := h.cnt
        omega
      · have h1 := rburn_uses S f.toNat ((S.at f.toNat).add (.w b)) (k := b.length) (by simp only [Fl.add, usum_app, usum, units]; omega)
        have := h.uses
        omega
      · rw [rburn_most]; exact hm
theorem Ltk.cutTo (h : Ltk k S) (f : Int) (n m : Nat) : Ltk (k + 1) (S.cutTo f n m).2 := by
  unfold Dk.cutTo
  split
  · exact h.more
  · exact h.cut f m
end
theorem burn_at (S : Dk) (i : Nat) (x : Fl) {j : Nat} (hi : i ≤ 1) (hj : j ≤ 1) (h : j ≠ i) : (S.burn i x).2.at j = S.at j := by
  unfold Dk.burn
  split
  · rfl
  · rcases (by omega : i = 0 ∧ j = 1 ∨ i = 1 ∧ j = 0) with ⟨rfl, rfl⟩ | ⟨rfl, rfl⟩ <;> rfl
theorem cut_at (S : Dk) {i j : Nat} (n : Int) (hi : i ≤ 1) (hj : j ≤ 1) (h : j ≠ i) : (S.cut i n).2.at j = S.at j := by
  unfold Dk.cut
  split
  · rfl
  · split
    · rfl
    · exact burn_at S _ _ (by simpa using hi) hj (by simpa using h)
theorem cutTo_at (S : Dk) {i j : Nat} (n m : Nat) (hi : i ≤ 1) (hj : j ≤ 1) (h : j ≠ i) : (S.cutTo i n m).2.at j = S.at j := by
  unfold Dk.cutTo
  split
  · rfl
  · exact cut_at S _ hi hj h
theorem sync_at (S : Dk) {i j : Nat} (hi : i ≤ 1) (hj : j ≤ 1) (h : j ≠ i) : (S.sync i).2.at j = S.at j := by
  unfold Dk.sync
  split
  · rfl
  · exact burn_at S _ _ (by simpa using hi) hj (by simpa using h)
theorem seq_cons (f : Dk → Int × Dk) (l : List (Dk → Int × Dk)) {S S1 : Dk} {x : Int} (h : f S = (x, S1)) : seqS (f :: l) S = if x = 0 then seqS l S1 else (x, S1) := by
  show (if (f S).1 = 0 then seqS l (f S).2 else f S) = _
  rw [h]
/-- A vault's cells, of the reference. -/
def rvV (r f g n : Nat) (b : Bool) : List Value := [.pointer (some ⟨r, 0, none⟩), .int .i64 (f : Int), .int .u64 (g : Int), .int .i64 (n : Int), .bool b]
def RBegQ (w0 : World) (r : Nat) (X : Nat → Prop) (w : World) (x : Int) (S : Dk) (e : Ending) (W : World) : Prop :=
  (x ≠ 0 ∧ e = .returned (.tuple #[.pointer none, .int .i64 x]) ∧ Rp w0 r X S W ∧ Kept X w W) ∨
  (x = 0 ∧ ∃ v, e = .returned (.tuple #[.pointer (some ⟨v, 0, none⟩), .int .i64 0]) ∧ w.heap.size ≤ v ∧ Ro W v 78 (rvV r 1 1 0 false) ∧ Rp w0 r (fun b => X b ∨ b = v) S W ∧ Kept X w W)
section
variable {w0 w : World} {r k : Nat} {X : Nat → Prop} {S : Dk}
set_option maxRecDepth 100000 in
set_option maxHeartbeats 4000000 in
theorem rbegin_any (D : Rp w0 r X S w) (lt : Ltk k S) (hk : k ≤ 20) :
    Calls Tryz.prog 55 #[.pointer (some ⟨r, 0, none⟩)] w (RBegQ w0 r X w (seqS (beginL (S.at 1).at.length (S.at 0).at.length) S).1 (seqS (beginL (S.at 1).at.length (S.at 0).at.length) S).2) := by
  obtain ⟨n1, hn1⟩ : ∃ n1, (S.at 1).at.length = n1 := ⟨_, rfl⟩
  obtain ⟨n0, hn0⟩ : ∃ n0, (S.at 0).at.length = n0 := ⟨_, rfl⟩
  obtain ⟨x1, S1, e1⟩ : ∃ x1 S1, S.cutTo 1 n1 0 = (x1, S1) := ⟨_, _, rfl⟩
  obtain ⟨x2, S2, e2⟩ : ∃ x2 S2, S1.cutTo 0 n0 0 = (x2, S2) := ⟨_, _, rfl⟩
  obtain ⟨x3, S3, e3⟩ : ∃ x3 S3, S2.write 1 (frontS 1 0) = (x3, S3) := ⟨_, _, rfl⟩
  obtain ⟨x4, S4, e4⟩ : ∃ x4 S4, S3.sync 1 = (x4, S4) := ⟨_, _, rfl⟩
  have L1 : Ltk (k + 1) S1 := by have := lt.cutTo 1 n1 0; rw [e1] at this; exact this
  have L2 : Ltk (k + 2) S2 := by have := L1.cutTo 0 n0 0; rw [e2] at this; exact this
  have L3 : Ltk (k + 3) S3 := by have := L2.write 1 (frontS 1 0); rw [e3] at this; exact this
  have a1 : (S1.at 0).at.length = n0 := by
    have := cutTo_at S (i := 1) (j := 0) n1 0 (by decide) (by decide) (by decide)
    have h2 : (S.cutTo ((1 : Nat) : Int) n1 0).2 = S1 := by
      have : S.cutTo ((1 : Nat) : Int) n1 0 = (x1, S1) := e1
      rw [this]
    rw [h2] at this
    rw [this, hn0]
  have hq : seqS (beginL n1 n0) S = if x1 = 0 then (if x2 = 0 then (if x3 = 0 then (if x4 = 0 then (0, S4) else (x4, S4)) else (x3, S3)) else (x2, S2)) else (x1, S1) := by
    unfold beginL
    rw [seq_cons _ _ e1, seq_cons _ _ e2, seq_cons _ _ e3, seq_cons _ _ e4]
    rfl
  rw [hn1, hn0]
  obtain ⟨q, hq2⟩ : ∃ q, seqS (beginL n1 n0) S = q := ⟨_, rfl⟩
  rw [hq2]
  rw [hq] at hq2
  have HQ := Lib.hid hq2
  have C1 := Lib.hid (rcutTo_p D (lt.lt (by omega)) (i := 1) (by decide) 0 (x := x1) (S' := S1) (by rw [hn1]; exact congrArg Prod.fst e1) (by rw [hn1]; exact congrArg Prod.snd e1))
  have C2 : Hid (∀ w', Rp w0 r X S1 w' → Calls Tryz.prog 56 #[.pointer (some ⟨r, 0, none⟩), .int .i64 0, .int .i64 0] w' (RStep w0 r X w' x2 S2)) := Lib.hid fun w' D' => rcutTo_p D' (L1.lt (by omega)) (i := 0) (by decide) 0 (by rw [a1]; exact congrArg Prod.fst e2) (by rw [a1]; exact congrArg Prod.snd e2)
  have C4 : Hid (∀ w', Rp w0 r X S3 w' → Calls Tryz.prog 57 #[.pointer (some ⟨r, 0, none⟩), .int .i64 1] w' (RStep w0 r X w' x4 S4)) := Lib.hid fun w' D' => rsync_p D' (L3.lt (by omega)) 1 (congrArg Prod.fst e4) (congrArg Prod.snd e4)
  have HL2 := Lib.hid L2
  have HE3 := Lib.hid e3
  clear hq hq2 e1 e2 e4 L1 L2 L3 a1 hn1 hn0 lt D e3
  by_cases h1 : ¬ x1 = 0
  · obtain rfl : (x1, S1) = q := by rw [← HQ.out, if_neg h1]
    have t1 : (x1 == 0) = false := beq_eq_false_iff_ne.2 h1
    have t2 : (x1 != 0) = true := by rw [bne_iff_ne]; exact h1
    have H1 := Lib.hid h1
    clear h1
    go_enter Tryz.func55, Tryz.ntmps55
    go_wp2_with fail
    refine (C1.out).mono ?_
    rintro e w1 ⟨rfl, D1, K1⟩
    have HD := Lib.hid D1
    have HK := Lib.hid K1
    clear D1 K1
    go_wp2_with fail
    exact bodyPost_ret (results_tmp2 rfl _ _ _) rfl (.inl ⟨H1.out, rfl, HD.out, HK.out⟩)
  obtain rfl := Classical.not_not.1 h1
  clear h1
  by_cases h2 : ¬ x2 = 0
  · obtain rfl : (x2, S2) = q := by rw [← HQ.out]; simp [h2]
    have t1 : (x2 == 0) = false := beq_eq_false_iff_ne.2 h2
    have t2 : (x2 != 0) = true := by rw [bne_iff_ne]; exact h2
    have H1 := Lib.hid h2
    clear h2
    go_enter Tryz.func55, Tryz.ntmps55
    go_wp2_with fail
    refine (C1.out).mono ?_
    rintro e w1 ⟨rfl, D1, K1⟩
    have HD := Lib.hid D1
    have HK := Lib.hid K1
    clear D1 K1
    go_wp2_with fail
    refine (C2.out _ HD.out).mono ?_
    rintro e w2 ⟨rfl, D2, K2⟩
    have HD2 := Lib.hid D2
    have HK2 := Lib.hid (HK.out.trans' K2)
    clear D2 K2
    go_wp2_with fail
    exact bodyPost_ret (results_tmp2 rfl _ _ _) rfl (.inl ⟨H1.out, rfl, HD2.out, HK2.out⟩)
  obtain rfl := Classical.not_not.1 h2
  clear h2
  have fb : AllB (frontS 1 0) := by
    unfold frontS
    exact allB_app (allB_app (lw_byt _ _) (lw_byt _ _)) (chkS_byt _)
  have fl := frontS_len 1 0
  have CF := Lib.hid fun w => rfront_any (g := 1) (n := 0) (by decide) (by decide) w
  obtain ⟨F, hF⟩ : ∃ F, frontS 1 0 = F := ⟨_, rfl⟩
  rw [hF] at fb fl HE3 CF
  obtain ⟨sf, hsf⟩ : ∃ s, strB F = s := ⟨_, rfl⟩
  unfold GivesS at CF
  rw [hsf] at CF
  have RB := Lib.hid fun w => run_bytes fb (by omega) w
  rw [hsf, fl] at RB
  clear hF hsf fb fl
  go_enter Tryz.func55, Tryz.ntmps55
  go_wp2_with fail
  refine (C1.out).mono ?_
  rintro e w1 ⟨rfl, D1, K1⟩
  have HD := Lib.hid D1
  have HK := Lib.hid K1
  clear D1 K1
  go_wp2_with fail
  refine (C2.out _ HD.out).mono ?_
  rintro e w2 ⟨rfl, D2, K2⟩
  have HD2 := Lib.hid D2
  have HK2 := Lib.hid (HK.out.trans' K2)
  clear D2 K2 HD HK C1 C2
  go_wp2_with fail
  refine (CF.out w2).mono ?_
  rintro e w3 ⟨rfl, b3⟩
  obtain ⟨c4, w4, r4, k4, m4, z4, B4, b4⟩ := RB.out w3
  have b34 : Below w2.heap.size w2 w4 := b3.trans (b4.mono b3.size)
  have D4 : Rp w0 r (fun b => X b ∨ (w2.heap.size ≤ b ∧ b < w4.heap.size)) S2 w4 := HD2.out.wide (Kept.of_below b34) (HD2.out.bel.trans (b34.mono HD2.out.bel.size)) fun b hb => hb
  have CW := Lib.hid (rwrite_p (c := c4) D4 (HL2.out.lt (by omega)) 1 B4 (fun a e => by injection e with e; subst e; exact .inr ⟨b3.size, z4⟩) (x := x3) (S' := S3) (congrArg Prod.fst HE3.out) (congrArg Prod.snd HE3.out))
  have HK4 := Lib.hid (HK2.out.trans' (Kept.of_below b34))
  clear k4 m4 z4 B4 b34 D4 RB CF b3 b4
  go_wp2_with fail
  refine (CW.out).mono ?_
  rintro e w5 ⟨rfl, D5, K5⟩
  have HD5 : Hid (Rp w0 r X S3 w5) := Lib.hid (D5.narrow fun b hb => .inl hb)
  have HK5 : Hid (Kept X w w5) := Lib.hid (HK4.out.trans' (K5.narrow fun b hb => .inl hb))
  clear D5 K5 CW
  by_cases h3 : ¬ x3 = 0
  · obtain rfl : (x3, S3) = q := by rw [← HQ.out]; simp [h3]
    have t1 : (x3 == 0) = false := beq_eq_false_iff_ne.2 h3
    have t2 : (x3 != 0) = true := by rw [bne_iff_ne]; exact h3
    have H1 := Lib.hid h3
    clear h3
    go_wp2_with fail
    exact bodyPost_ret (results_tmp2 rfl _ _ _) rfl (.inl ⟨H1.out, rfl, HD5.out, HK5.out⟩)
  obtain rfl := Classical.not_not.1 h3
  clear h3
  go_wp2_with fail
  refine (C4.out _ HD5.out).mono ?_
  rintro e w6 ⟨rfl, D6, K6⟩
  have HD6 := Lib.hid D6
  have HK6 := Lib.hid (HK5.out.trans' K6)
  clear D6 K6
  by_cases h4 : ¬ x4 = 0
  · obtain rfl : (x4, S4) = q := by rw [← HQ.out]; simp [h4]
    have t1 : (x4 == 0) = false := beq_eq_false_iff_ne.2 h4
    have t2 : (x4 != 0) = true := by rw [bne_iff_ne]; exact h4
    have H1 := Lib.hid h4
    clear h4
    go_wp2_with fail
    exact bodyPost_ret (results_tmp2 rfl _ _ _) rfl (.inl ⟨H1.out, rfl, HD6.out, HK6.out⟩)
  obtain rfl := Classical.not_not.1 h4
  obtain rfl : ((0 : Int), S4) = q := by rw [← HQ.out]; simp
  clear h4
  have b7 : Below w6.heap.size w6 (w6.alloc (.cells (rvV r 1 1 0 false).toArray 78)) := (Below.refl _ _).alloc (Nat.le_refl _) _
  have FIN : Hid (RBegQ w0 r X w 0 S4 (.returned (.tuple #[.pointer (some ⟨w6.heap.size, 0, none⟩), .int .i64 0])) (w6.alloc (.cells (rvV r 1 1 0 false).toArray 78))) := Lib.hid (.inr ⟨rfl, w6.heap.size, rfl, HK6.out.size, Ro.new _ _ _, HD6.out.wide (Kept.of_below b7) (HD6.out.bel.trans (b7.mono HD6.out.bel.size)) fun b hb => hb.elim .inl fun e => .inr ⟨by omega, by rw [World.size_alloc]; omega⟩, HK6.out.trans' (Kept.of_below b7)⟩)
  clear b7
  go_wp2_with fail
  refine bodyPost_ret (results_tmp2 rfl _ _ _) rfl ?_
  exact FIN.out
end
end Go.Proofs.YtjcphpmlekfhdaaGreatDoor
