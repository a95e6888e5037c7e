/- Numbers of bytes. No memory. No condition. -/
import Derived.Test.YtjcphpmlekfhdaaGreatDoorGc
import Derived.Test.YtjcphpmlekfhdaaGreatDoorGi
import Derived.Test.YtjcphpmlekfhdaaGreatDoorCpt

namespace Go.Proofs.YtjcphpmlekfhdaaGreatDoor

theorem lw_num : ∀ {L : List Nat}, AllB L → lw L.length (num L) = L
  | [], _ => rfl
  | x :: l, h => by
    have h1 := h x (List.mem_cons_self ..)
    have e1 : (x + 256 * num l) % 256 = x := by omega
    have e2 : (x + 256 * num l) / 256 = num l := by omega
    rw [List.length_cons, lw, num, e1, e2, lw_num fun y hy => h y (List.mem_cons_of_mem _ hy)]
theorem allB_take {L : List Nat} (h : AllB L) (n : Nat) : AllB (L.take n) := fun x hx => h x (List.mem_of_mem_take hx)
theorem allB_drop {L : List Nat} (h : AllB L) (n : Nat) : AllB (L.drop n) := fun x hx => h x (List.mem_of_mem_drop hx)
theorem lw_take {s : List Nat} (h : AllB s) {k : Nat} (hk : k ≤ s.length) : lw k (num (s.take k)) = s.take k := by
  have := lw_num (allB_take h k)
  rwa [List.length_take, Nat.min_eq_left hk] at this
end Go.Proofs.YtjcphpmlekfhdaaGreatDoor

/- What a vault's files are, what a crash leaves of them, and what Open finds then. No memory. No condition. -/
namespace Go.Proofs.YtjcphpmlekfhdaaGreatDoor

theorem firstS_form {g k : Nat} {s r : List Nat} (hs : AllB s) (h : firstS g k s = some r) : s.take (36 + r.length) = frameS g k r := by
  obtain ⟨h1, h2, h3⟩ := firstS_len h
  unfold firstS at h
  rw [if_neg (by omega), if_neg (by omega)] at h
  split at h
  · rename_i hc
    injection h with h
    have e1 : s.take (4 + r.length) = bodyS r := by
      unfold bodyS
      rw [List.take_add, ← lw_take hs (by omega : 4 ≤ s.length), ← h3]
      congr 1
      rw [h3]
      exact h
    have e2 : (s.drop (4 + r.length)).take 32 = fchkS g k (bodyS r) := by
      rw [← h3] at hc
      rw [← hc, e1]
    unfold frameS
    rw [show 36 + r.length = (4 + r.length) + 32 by omega, List.take_add, e1, e2]
  · cases h
theorem wholeS_form {g : Nat} : ∀ (f k : Nat) (s : List Nat), AllB s → s.take (wideS (wholeS g f k s)) = framesS g k (wholeS g f k s) ∧ wideS (wholeS g f k s) ≤ s.length ∧ ∀ r ∈ wholeS g f k s, r.length ≤ 32768
  | 0, _, _, _ => ⟨rfl, Nat.zero_le _, fun r hr => by cases hr⟩
  | f + 1, k, s, hs => by
    rw [wholeS]
    cases e : firstS g k s with
    | none => exact ⟨rfl, Nat.zero_le _, fun r hr => by cases hr⟩
    | some r =>
      obtain ⟨h1, h2, _⟩ := firstS_len e
      obtain ⟨a1, a2, a3⟩ := wholeS_form (g := g) f (k + 1) (s.drop (36 + r.length)) (allB_drop hs _)
      have hw : ∀ l : List (List Nat), wideS (r :: l) = (36 + r.length) + wideS l := fun l => by simp [wideS]
      dsimp only
      rw [hw, framesS]
      refine ⟨?_, ?_, ?_⟩
      · rw [List.take_add, firstS_form hs e, a1]
      · rw [List.length_drop] at a2
        omega
      · intro x hx
        rcases List.mem_cons.1 hx with rfl | hx
        · exact h2
        · exact a3 x hx
/-- The bytes of a file in order: its generation and its records. -/
def Fm (f g : Nat) (l : List (List Nat)) (F : List Nat) : Prop :=
  (∃ n, n ≤ l.length ∧ n < 4294967296 ∧ F = frontS g n ++ framesS g 0 l) ∧ 1 ≤ g ∧ g ≤ 4611686018427387904 ∧ g % 2 = f ∧ ∀ r ∈ l, r.length ≤ 32768
theorem Fm.len {f g : Nat} {l : List (List Nat)} {F : List Nat} (h : Fm f g l F) : F.length = 44 + wideS l := by
  obtain ⟨⟨n, _, _, rfl⟩, _⟩ := h
  rw [List.length_append, frontS_len, framesS_len]
theorem Fm.sound {f g : Nat} {l : List (List Nat)} {F : List Nat} (h : Fm f g l F) : soundS f F = some (g, l, F.length) := by
  have hl := h.len
  obtain ⟨⟨n, h1, h2, rfl⟩, h3, h4, h5, h6⟩ := h
  rw [soundS_front h3 h4 h5 h2, recsS_frames h6, if_neg (by omega), hl]
theorem Fm.more {f g : Nat} {l L : List (List Nat)} {F : List Nat} (h : Fm f g l F) (hL : ∀ r ∈ L, r.length ≤ 32768) : Fm f g (l ++ L) (F ++ framesS g l.length L) := by
  obtain ⟨⟨n, h1, h2, rfl⟩, h3, h4, h5, h6⟩ := h
  refine ⟨⟨n, by rw [List.length_append]; omega, h2, ?_⟩, h3, h4, h5, fun r hr => ?_⟩
  · rw [framesS_app, Nat.zero_add, List.append_assoc]
  · rcases List.mem_append.1 hr with hr | hr
    · exact h6 r hr
    · exact hL r hr
/-- Behind it a beginning of more frames: a beginning of the records. -/
theorem Fm.torn {f g : Nat} {l L : List (List Nat)} {F : List Nat} (h : Fm f g l F) (hL : ∀ r ∈ L, r.length ≤ 32768) (m : Nat) : ∃ j gd, j ≤ L.length ∧ soundS f (F ++ (framesS g l.length L).take m) = some (g, l ++ L.take j, gd) := by
  obtain ⟨⟨n, h1, h2, rfl⟩, h3, h4, h5, h6⟩ := h
  by_cases hm : (framesS g l.length L).length ≤ m
  · have := (Fm.more ⟨⟨n, h1, h2, rfl⟩, h3, h4, h5, h6⟩ hL).sound
    rw [List.take_of_length_le hm]
    exact ⟨L.length, _, Nat.le_refl _, by rw [this, List.take_length]⟩
  · have hlen : ((framesS g l.length L).take m).length = m := by rw [List.length_take]; omega
    obtain ⟨j, hj, e, _⟩ := wholeS_cut g L l.length ((framesS g 0 l ++ (framesS g l.length L).take m).length) m hL (by rw [List.length_append, hlen]; omega)
    have er : recsS g (framesS g 0 l ++ (framesS g l.length L).take m) = l ++ L.take j := by
      unfold recsS
      rw [wholeS_frames g l 0 _ _ h6 (Nat.le_refl _), Nat.zero_add, e]
    refine ⟨j, 44 + wideS (l ++ L.take j), hj, ?_⟩
    rw [List.append_assoc, soundS_front h3 h4 h5 h2, er, if_neg (by rw [List.length_append]; omega)]
/-- A beginning of a whole file as Compact writes it: none, or all. -/
theorem part_sound {f g : Nat} {L : List (List Nat)} (h3 : 1 ≤ g) (h4 : g ≤ 4611686018427387904) (h5 : g % 2 = f) (hL : ∀ r ∈ L, r.length ≤ 32768) (hn : L.length < 4294967296) (m : Nat) :
    soundS f ((frontS g L.length ++ framesS g 0 L).take m) = none ∨ ∃ gd, soundS f ((frontS g L.length ++ framesS g 0 L).take m) = some (g, L, gd) := by
  by_cases hm : m < 44
  · refine .inl (soundS_short ?_)
    rw [List.length_take]
    omega
  · obtain ⟨q, rfl⟩ : ∃ q, m = 44 + q := ⟨m - 44, by omega⟩
    have e : (frontS g L.length ++ framesS g 0 L).take (44 + q) = frontS g L.length ++ (framesS g 0 L).take q := by
      rw [List.take_append, frontS_len, List.take_of_length_le (by rw [frontS_len]; omega), Nat.add_sub_cancel_left]
    rw [e, soundS_front h3 h4 h5 hn]
    by_cases hq : (framesS g 0 L).length ≤ q
    · rw [List.take_of_length_le hq, recsS_frames hL, if_neg (Nat.lt_irrefl _)]
      exact .inr ⟨_, rfl⟩
    · have hlen : ((framesS g 0 L).take q).length = q := by rw [List.length_take]; omega
      obtain ⟨j, hj, e2, _, h6, _⟩ := wholeS_cut g L 0 ((framesS g 0 L).take q).length q hL (by omega)
      have er : recsS g ((framesS g 0 L).take q) = L.take j := e2
      have hw := framesS_len g 0 L
      have := (h6 (by omega)).1
      rw [er, if_pos (by rw [List.length_take]; omega)]
      exact .inl rfl
/-- What is sound is in order up to where it is good. -/
theorem soundS_form {f g gd : Nat} {l : List (List Nat)} {s : List Nat} (hs : AllB s) (h : soundS f s = some (g, l, gd)) : Fm f g l (s.take gd) ∧ gd ≤ s.length := by
  unfold soundS at h
  split at h
  · cases h
  · rename_i h1
    split at h
    · cases h
    · rename_i h2
      split at h
      · cases h
      · rename_i h3
        split at h
        · cases h
        · rename_i h4
          injection h with h
          injection h with e1 h
          injection h with e2 e3
          obtain ⟨a1, a2, a3⟩ := wholeS_form (g := num (s.take 8)) (s.drop 44).length 0 (s.drop 44) (allB_drop hs _)
          have er : wholeS (num (s.take 8)) (s.drop 44).length 0 (s.drop 44) = l := e2
          rw [er] at a1 a2 a3
          rw [e2] at h4 e3
          rw [List.length_drop] at a2
          rw [e1] at h3 a1
          have h2' := Decidable.not_not.1 h2
          have hN : num ((s.drop 8).take 4) < 4294967296 := by
            have := num_lt (allB_take (allB_drop hs 8) 4)
            rw [List.length_take, List.length_drop, Nat.min_eq_left (by omega)] at this
            exact this
          refine ⟨⟨⟨num ((s.drop 8).take 4), by omega, hN, ?_⟩, by omega, by omega, by omega, a3⟩, by omega⟩
          have e12 : s.take 12 = lw 8 g ++ lw 4 (num ((s.drop 8).take 4)) := by
            rw [show (12 : Nat) = 8 + 4 from rfl, List.take_add, lw_take (allB_drop hs 8) (by rw [List.length_drop]; omega), ← e1, lw_take hs (by omega)]
          have e44 : s.take 44 = frontS g (num ((s.drop 8).take 4)) := by
            unfold frontS
            rw [show (44 : Nat) = 12 + 32 from rfl, List.take_add, ← h2', e12]
          rw [← e3, List.take_add, e44, a1]
end Go.Proofs.YtjcphpmlekfhdaaGreatDoor

/- Add and Compact, whatever the vault's state. No condition but bounds. -/
namespace Go.Proofs.YtjcphpmlekfhdaaGreatDoor
open Go.RowKit

section
variable {w : World} {A : Option Addr} {n c : Nat} {v d file gen count : Nat} {failed : Bool} {l : List (List Nat)}
set_option maxRecDepth 100000 in
set_option maxHeartbeats 1000000 in
theorem compact_not (hV : Ro w v 90 (vtV d file gen count failed)) (hR : Rows w anyP 1 ByR A n l) (hn : n ≤ 1099511627776) (hm : mayN failed l ≠ 0) :
    Calls Tryz.prog 20 #[.pointer (some ⟨v, 0, none⟩), .slice A n c] w fun e w' => e = .returned (.int .i64 (mayN failed l)) ∧ Below w.heap.size w w' := by
  have ba : Below w.heap.size w (w.alloc (.cells #[.pointer (some ⟨v, 0, none⟩)] 34)) := (Below.refl _ _).alloc (Nat.le_refl _) _
  have MY := Lib.hid (may_any (c := c) _ (hV.later ba) (Rows.later byM hR ba) hn)
  have t1 : (mayN failed l != 0) = true := by rw [bne_iff_ne]; exact hm
  have BA := Lib.hid ba
  obtain ⟨x, hx⟩ : ∃ x, mayN failed l = x := ⟨_, rfl⟩
  rw [hx] at MY t1 ⊢
  clear hV hR hm hx ba
  go_enter Tryz.func20, Tryz.ntmps20
  go_wp2_with fail
  refine (MY.out).mono ?_
  rintro e w1 ⟨rfl, rfl⟩
  go_wp2_with fail
  go_ret
  exact ⟨rfl, BA.out⟩
/-- What Add does, whatever the state. -/
def addT (failed : Bool) (file gen count : Nat) (l : List (List Nat)) (S : Dk) : Int × Dk × Nat × Bool :=
  if mayN failed l = 0 then addS file gen count l S else (mayN failed l, S, count, failed)
def compactT (failed : Bool) (file gen count : Nat) (l : List (List Nat)) (S : Dk) : Int × Dk × Nat × Nat × Nat × Bool :=
  if mayN failed l = 0 then compactS file gen count l S else (mayN failed l, S, file, gen, count, failed)
theorem may_zero (h : mayN failed l = 0) : failed = false ∧ longS l = false := by
  unfold mayN at h
  cases failed with
  | true => simp at h
  | false =>
    cases e : longS l with
    | true => rw [e] at h; simp at h
    | false => exact ⟨rfl, rfl⟩
/-- A vault beside its disk. -/
structure Vs (w0 : World) (d v : Nat) (X : Nat → Prop) (S : Dk) (file gen count : Nat) (failed : Bool) (w : World) : Prop where
  dp : Dp w0 d X S w
  xv : X v
  vt : Ro w v 90 (vtV d file gen count failed)
  low : w0.heap.size ≤ v
theorem Vs.later {w0 w1 : World} {X : Nat → Prop} {S : Dk} (V : Vs w0 d v X S file gen count failed w) (b : Below w.heap.size w w1) : Vs w0 d v X S file gen count failed w1 := ⟨V.dp.later b, V.xv, V.vt.later b, V.low⟩
theorem add_s {w0 : World} {X : Nat → Prop} {S : Dk} (hLd : Laid w0) (V : Vs w0 d v X S file gen count failed w) (hR : Rows w anyP 1 ByR A n l) (hn : n ≤ 1099511627776) (hg : gen < 18446744073709551616) (hk : count ≤ 4611686018427387904) (hw : wideS l ≤ 549755813888) (hcnt : S.cnt ≤ 1000000000) :
    Calls Tryz.prog 14 #[.pointer (some ⟨v, 0, none⟩), .slice A n c] w fun e W => e = .returned (.int .i64 (addT failed file gen count l S).1) ∧ Vs w0 d v X (addT failed file gen count l S).2.1 file gen (addT failed file gen count l S).2.2.1 (addT failed file gen count l S).2.2.2 W ∧ Kept (fun b => X b ∧ b ≠ v) w W := by
  by_cases hm : mayN failed l = 0
  · obtain ⟨rfl, hl⟩ := may_zero hm
    unfold addT
    rw [if_pos hm]
    exact (add_v V.dp V.xv V.vt.lt (hLd.later hLd.lt V.dp.bel) V.vt hR hn hl hg hk hw V.low (by omega) (by have := cnt_write S (file : Nat) (framesS gen count l); omega)).mono fun e W ⟨h1, h2, h3, h4⟩ => ⟨h1, ⟨h3, V.xv, h2, V.low⟩, h4⟩
  · unfold addT
    rw [if_neg hm]
    exact (add_not V.vt hR hn hm).mono fun e W ⟨h1, h2⟩ => ⟨h1, V.later h2, Kept.of_below h2⟩
theorem compact_s {w0 : World} {X : Nat → Prop} {S : Dk} (hLd : Laid w0) (V : Vs w0 d v X S file gen count failed w) (hR : Rows w (fun b => X b ∧ b ≠ v) 1 ByR A n l) (hn : n ≤ 1073741824) (hf : file ≤ 1) (hg : gen < 18446744073709551616) (hw : wideS l ≤ 1073741824) (hcnt : S.cnt ≤ 1000000000) :
    Calls Tryz.prog 20 #[.pointer (some ⟨v, 0, none⟩), .slice A n c] w fun e W => e = .returned (.int .i64 (compactT failed file gen count l S).1) ∧ Vs w0 d v X (compactT failed file gen count l S).2.1 (compactT failed file gen count l S).2.2.1 (compactT failed file gen count l S).2.2.2.1 (compactT failed file gen count l S).2.2.2.2.1 (compactT failed file gen count l S).2.2.2.2.2 W ∧ Kept (fun b => X b ∧ b ≠ v) w W := by
  by_cases hm : mayN failed l = 0
  · obtain ⟨rfl, hl⟩ := may_zero hm
    unfold compactT
    rw [if_pos hm]
    exact (compact_v V.dp V.xv V.vt.lt hLd V.vt hR hn hl hf hg hw V.low hcnt).mono fun e W ⟨h1, h2, h3, h4⟩ => ⟨h1, ⟨h3, V.xv, h2, V.low⟩, h4⟩
  · unfold compactT
    rw [if_neg hm]
    exact (compact_not V.vt (Rows.weak byM hR fun _ _ _ => trivial) (by omega) hm).mono fun e W ⟨h1, h2⟩ => ⟨h1, V.later h2, Kept.of_below h2⟩
end
end Go.Proofs.YtjcphpmlekfhdaaGreatDoor

/- A vault's disk, call by call: in order, or safe against a crash. No memory. No condition but room. -/
namespace Go.Proofs.YtjcphpmlekfhdaaGreatDoor

theorem put_same (d : Dk) {i : Nat} (hi : i ≤ 1) (x : Fl) : (d.put i x).at i = x := by
  have e : i = 0 ∨ i = 1 := by omega
  rcases e with rfl | rfl <;> rfl
theorem put_other (d : Dk) {i : Nat} (hi : i ≤ 1) (x : Fl) : (d.put i x).at (1 - i) = d.at (1 - i) := by
  have e : i = 0 ∨ i = 1 := by omega
  rcases e with rfl | rfl <;> rfl
theorem put_most (d : Dk) (i : Nat) (x : Fl) : (d.put i x).most = d.most ∧ (d.put i x).off = d.off ∧ (d.put i x).fuse = d.fuse := by
  unfold Dk.put
  split <;> exact ⟨rfl, rfl, rfl⟩
/-- What a counted call does. -/
theorem burn_spec (d : Dk) {i : Nat} (hi : i ≤ 1) (x : Fl) :
    (d.fuse = 0 ∧ d.burn i x = (8, { d with off := true })) ∨
    (d.fuse ≠ 0 ∧ ∃ T, d.burn i x = (0, T) ∧ T.off = d.off ∧ T.most = d.most ∧ T.at i = x ∧ T.at (1 - i) = d.at (1 - i) ∧ (d.fuse = -1 → T.fuse = -1)) := by
  unfold Dk.burn
  by_cases h : d.fuse = 0
  · rw [if_pos h]; exact .inl ⟨h, rfl⟩
  · rw [if_neg h]
    refine .inr ⟨h, _, rfl, (put_most _ _ _).2.1, (put_most _ _ _).1, put_same _ hi _, put_other _ hi _, fun e => ?_⟩
    rw [(put_most _ _ _).2.2]
    show (if 0 < d.fuse then d.fuse - 1 else d.fuse) = -1
    rw [if_neg (by omega), e]
theorem off_at (d : Dk) (i : Nat) : ({ d with off := true } : Dk).at i = d.at i := rfl
theorem ask_ok {d : Dk} (h : d.off = false) {i : Nat} (hi : i ≤ 1) : d.ask (i : Int) = 0 := Dk.ask_on h (by omega)
/-- Behind a step: it went well, or the power is gone and nothing is turned. -/
def Went (d : Dk) (i : Nat) (y : Fl) (r : Int × Dk) : Prop :=
  (d.fuse = 0 ∧ r = (8, { d with off := true })) ∨
  (d.fuse ≠ 0 ∧ r.1 = 0 ∧ r.2.off = false ∧ r.2.most = d.most ∧ r.2.at i = y ∧ r.2.at (1 - i) = d.at (1 - i) ∧ (d.fuse = -1 → r.2.fuse = -1))
theorem went_burn {d : Dk} (h : d.off = false) {i : Nat} (hi : i ≤ 1) (y : Fl) : Went d i y (d.burn i y) := by
  rcases burn_spec d hi y with ⟨h1, h2⟩ | ⟨h1, T, h2, h3, h4, h5, h6, h7⟩
  · exact .inl ⟨h1, h2⟩
  · refine .inr ⟨h1, ?_⟩
    rw [h2]
    exact ⟨rfl, h3.trans h, h4, h5, h6, h7⟩
theorem went_write {d : Dk} (h : d.off = false) {i : Nat} (hi : i ≤ 1) {b : List Nat} (hb : b.length ≤ d.room) : Went d i ((d.at i).add (.w b)) (d.write (i : Int) b) := by
  unfold Dk.write
  rw [ask_ok h hi, if_neg (by simp), if_neg (by omega)]
  exact went_burn h hi _
theorem went_sync {d : Dk} (h : d.off = false) {i : Nat} (hi : i ≤ 1) : Went d i (d.at i).settle (d.sync (i : Int)) := by
  unfold Dk.sync
  rw [ask_ok h hi, if_neg (by simp)]
  exact went_burn h hi _
theorem went_cut {d : Dk} (h : d.off = false) {i : Nat} (hi : i ≤ 1) {n : Nat} (hn : n ≤ (d.at i).at.length) : Went d i ((d.at i).add (.c n)) (d.cut (i : Int) (n : Nat)) := by
  unfold Dk.cut
  rw [ask_ok h hi, if_neg (by simp), if_neg (by rw [Int.toNat_natCast]; omega)]
  exact went_burn h hi _

/-- What a file may hold behind a crash. -/
def Out (x : Fl) (L : List Nat) : Prop := ∃ k, L = appl x.sure (loseL k x.loose)
theorem out_sure {x : Fl} (h : x.loose = []) {L : List Nat} (o : Out x L) : L = x.sure := by
  obtain ⟨k, rfl⟩ := o
  rw [h]
  rfl
theorem out_write {x : Fl} {b L : List Nat} (o : Out (x.add (.w b)) L) : Out x L ∨ ∃ m, L = x.at ++ b.take m := by
  obtain ⟨k, rfl⟩ := o
  show Out x (appl x.sure (loseL k (x.loose ++ [.w b]))) ∨ _
  have key : ∀ (l : List Chg) (s : List Nat) (k : Int), (∃ k', appl s (loseL k (l ++ [.w b])) = appl s (loseL k' l)) ∨ ∃ m, appl s (loseL k (l ++ [.w b])) = appl s l ++ b.take m := by
    intro l
    induction l with
    | nil =>
      intro s k
      refine .inr ?_
      rw [List.nil_append]
      unfold loseL
      by_cases h : k < (units (.w b) : Int)
      · rw [if_pos h]
        exact ⟨(max k 0).toNat, rfl⟩
      · rw [if_neg h]
        exact ⟨b.length, by rw [List.take_length]; rfl⟩
    | cons c l ih =>
      intro s k
      rw [List.cons_append]
      by_cases h : k < (units c : Int)
      · refine .inl ⟨k, ?_⟩
        conv => lhs; unfold loseL
        conv => rhs; unfold loseL
        rw [if_pos h, if_pos h]
      · have e1 : loseL k (c :: (l ++ [.w b])) = c :: loseL (k - units c) (l ++ [.w b]) := by
          conv => lhs; unfold loseL
          rw [if_neg h]
        rw [e1, appl_cons]
        rcases ih (doC s c) (k - units c) with ⟨k', hk'⟩ | ⟨m, hm⟩
        · refine .inl ⟨max k' 0 + units c, ?_⟩
          rw [hk']
          conv => rhs; unfold loseL
          rw [if_neg (by omega), appl_cons]
          have e3 : max k' 0 + (units c : Int) - units c = max k' 0 := by omega
          rw [e3]
          rw [appl_lose, appl_lose]
          by_cases h0 : k' ≤ 0
          · rw [doneS_zero _ _ _ h0, doneS_zero _ _ _ (by omega)]
          · rw [show max k' 0 = k' by omega]
        · exact .inr ⟨m, by rw [hm, appl_cons]⟩
  rcases key x.loose x.sure k with ⟨k', h⟩ | ⟨m, h⟩
  · exact .inl ⟨k', h⟩
  · exact .inr ⟨m, h⟩
theorem out_at (x : Fl) : Out x x.at := ⟨(usum x.loose : Nat), by rw [lose_all _ _ (Int.le_refl _)]; rfl⟩
theorem out_add_cut {x : Fl} {n : Nat} {L : List Nat} (o : Out (x.add (.c n)) L) : Out x L ∨ L = x.at.take n := by
  obtain ⟨k, rfl⟩ := o
  show Out x (appl x.sure (loseL k (x.loose ++ [.c n]))) ∨ _
  have key : ∀ (l : List Chg) (s : List Nat) (k : Int), (∃ k', appl s (loseL k (l ++ [.c n])) = appl s (loseL k' l)) ∨ appl s (loseL k (l ++ [.c n])) = (appl s l).take n := by
    intro l
    induction l with
    | nil =>
      intro s k
      rw [List.nil_append]
      unfold loseL
      by_cases h : k < (units (.c n) : Int)
      · rw [if_pos h]
        refine .inl ⟨0, ?_⟩
        show s ++ ([] : List Nat) = s
        rw [List.append_nil]
      · rw [if_neg h]
        exact .inr rfl
    | cons c l ih =>
      intro s k
      rw [List.cons_append]
      by_cases h : k < (units c : Int)
      · refine .inl ⟨k, ?_⟩
        conv => lhs; unfold loseL
        conv => rhs; unfold loseL
        rw [if_pos h, if_pos h]
      · have e1 : loseL k (c :: (l ++ [.c n])) = c :: loseL (k - units c) (l ++ [.c n]) := by
          conv => lhs; unfold loseL
          rw [if_neg h]
        rw [e1, appl_cons]
        rcases ih (doC s c) (k - units c) with ⟨k', hk'⟩ | hm
        · refine .inl ⟨max k' 0 + units c, ?_⟩
          rw [hk']
          conv => rhs; unfold loseL
          rw [if_neg (by omega), appl_cons]
          have e3 : max k' 0 + (units c : Int) - units c = max k' 0 := by omega
          rw [e3]
          rw [appl_lose, appl_lose]
          by_cases h0 : k' ≤ 0
          · rw [doneS_zero _ _ _ h0, doneS_zero _ _ _ (by omega)]
          · rw [show max k' 0 = k' by omega]
        · exact .inr (by rw [hm, appl_cons])
  rcases key x.loose x.sure k with ⟨k', h⟩ | h
  · exact .inl ⟨k', h⟩
  · exact .inr h
theorem out_cut {x : Fl} {n : Nat} {L : List Nat} (hl : x.loose = []) (o : Out (x.add (.c n)) L) : L = x.sure ∨ L = x.sure.take n := by
  obtain ⟨k, rfl⟩ := o
  show appl x.sure (loseL k (x.loose ++ [.c n])) = _ ∨ appl x.sure (loseL k (x.loose ++ [.c n])) = _
  rw [hl, List.nil_append]
  unfold loseL
  by_cases h : k < (units (.c n) : Int)
  · rw [if_pos h]
    refine .inl ?_
    show x.sure ++ ([] : List Nat) = x.sure
    rw [List.append_nil]
  · rw [if_neg h]
    exact .inr rfl
theorem lose_out (x : Fl) (k : Int) : Out x (x.lose k).sure ∧ (x.lose k).loose = [] := ⟨⟨k, rfl⟩, rfl⟩

theorem best_of {c : Nat → List Nat} {f g gd : Nat} {l : List (List Nat)} (hf : f ≤ 1) (h1 : 1 ≤ g) (h : soundS f (c f) = some (g, l, gd)) (ho : ∀ y, soundS (1 - f) (c (1 - f)) = some y → y.1 < g) : bestS c 2 = some (f, g, l, gd) := by
  have e : f = 0 ∨ f = 1 := by omega
  rcases e with rfl | rfl
  · have e1 : bestS c 1 = some (0, g, l, gd) := bestS_less (Ls := c) (i := 0) h (by show (0 : Nat) < g; omega)
    cases e2 : soundS 1 (c 1) with
    | none => rw [bestS_none (i := 1) e2, e1]
    | some y =>
      have := ho y e2
      rw [bestS_more (i := 1) e2 (by rw [e1]; show ¬ g < y.1; omega), e1]
  · cases e2 : soundS 0 (c 0) with
    | none => exact bestS_less (i := 1) h (by rw [bestS_none (i := 0) e2]; show (0 : Nat) < g; omega)
    | some y =>
      have h3 := ho y e2
      have h4 := soundS_gen e2
      exact bestS_less (i := 1) h (by rw [bestS_less (i := 0) e2 (by show (0 : Nat) < y.1; omega)]; exact h3)
theorem soundS_par {f : Nat} {L : List Nat} {x : Nat × List (List Nat) × Nat} (h : soundS f L = some x) : x.1 % 2 = f := by
  unfold soundS at h
  split at h
  · cases h
  · split at h
    · cases h
    · split at h
      · cases h
      · split at h
        · cases h
        · injection h with h
          subst h
          dsimp only
          omega
/-- What is best is sound, and the other one is less. -/
theorem best_is {c : Nat → List Nat} {y : Nat × Nat × List (List Nat) × Nat} (h : bestS c 2 = some y) : y.1 ≤ 1 ∧ soundS y.1 (c y.1) = some y.2 ∧ ∀ z, soundS (1 - y.1) (c (1 - y.1)) = some z → z.1 < y.2.1 := by
  have h0 : bestS c 0 = none := rfl
  cases e0 : soundS 0 (c 0) with
  | none =>
    have b1 : bestS c 1 = none := bestS_none (i := 0) e0
    cases e1 : soundS 1 (c 1) with
    | none => rw [bestS_none (i := 1) e1, b1] at h; cases h
    | some x =>
      have := (soundS_gen e1).1
      rw [bestS_less (i := 1) e1 (by rw [b1]; show (0 : Nat) < x.1; omega)] at h
      injection h with h
      subst h
      exact ⟨Nat.le_refl _, e1, fun z hz => by rw [show 1 - 1 = 0 from rfl, e0] at hz; cases hz⟩
  | some x =>
    have hx := (soundS_gen e0).1
    have b1 : bestS c 1 = some (0, x) := bestS_less (i := 0) e0 (by show (0 : Nat) < x.1; omega)
    cases e1 : soundS 1 (c 1) with
    | none =>
      rw [bestS_none (i := 1) e1, b1] at h
      injection h with h
      subst h
      exact ⟨Nat.zero_le _, e0, fun z hz => by rw [show 1 - 0 = 1 from rfl, e1] at hz; cases hz⟩
    | some z =>
      have hp0 := soundS_par e0
      have hp1 := soundS_par e1
      by_cases hlt : x.1 < z.1
      · rw [bestS_less (i := 1) e1 (by rw [b1]; exact hlt)] at h
        injection h with h
        subst h
        refine ⟨Nat.le_refl _, e1, fun q hq => ?_⟩
        rw [show 1 - 1 = 0 from rfl, e0] at hq
        injection hq with hq
        subst hq
        exact hlt
      · rw [bestS_more (i := 1) e1 (by rw [b1]; exact hlt), b1] at h
        injection h with h
        subst h
        refine ⟨Nat.zero_le _, e0, fun q hq => ?_⟩
        rw [show 1 - 0 = 1 from rfl, e1] at hq
        injection hq with hq
        subst hq
        dsimp only
        omega
end Go.Proofs.YtjcphpmlekfhdaaGreatDoor

/- A vault in order, or safe: what Add, Compact and Open make of it. No memory. No condition. -/
namespace Go.Proofs.YtjcphpmlekfhdaaGreatDoor

/-- A vault in order on a disk that has power. -/
structure Alive (S : Dk) (f g : Nat) (l : List (List Nat)) : Prop where
  on : S.off = false
  hf : f ≤ 1
  fm : Fm f g l (S.at f).sure
  lo : (S.at f).loose = []
  low : ∀ L, Out (S.at (1 - f)) L → ∀ y, soundS (1 - f) L = some y → y.1 < g
  nil : (S.at (1 - f)).at = []
/-- Whatever is left of what is loose, what is found is one of Q. -/
def Safe (S : Dk) (Q : List (List Nat) → Prop) : Prop := ∀ c : Nat → List Nat, (∀ i, i ≤ 1 → Out (S.at i) (c i)) → ∃ y, bestS c 2 = some y ∧ Q y.2.2.1
section
variable {S : Dk} {f g : Nat} {l L : List (List Nat)}
theorem Alive.at_ (A : Alive S f g l) : (S.at f).at = (S.at f).sure := by
  unfold Fl.at
  rw [A.lo]
  rfl
theorem Alive.room (A : Alive S f g l) : S.room = S.most - (44 + wideS l) := by
  have h1 := A.fm.len
  have h2 := A.nil
  rw [← A.at_] at h1
  have e : f = 0 ∨ f = 1 := by have := A.hf; omega
  unfold Dk.room
  rcases e with rfl | rfl
  · have e1 : S.f.at.length = 44 + wideS l := h1
    have e2 : S.g.at = [] := h2
    rw [e1, e2, List.length_nil]
    omega
  · have e1 : S.g.at.length = 44 + wideS l := h1
    have e2 : S.f.at = [] := h2
    rw [e1, e2, List.length_nil]
    omega
theorem Alive.best (A : Alive S f g l) : bestS (fun i => (S.at i).at) 2 = some (f, g, l, (S.at f).sure.length) :=
  best_of A.hf A.fm.2.1 (by show soundS f (S.at f).at = _; rw [A.at_]; exact A.fm.sound) fun y hy => A.low _ (out_at _) y hy
theorem best_safe {c : Nat → List Nat} {Q : List (List Nat) → Prop} {gd : Nat} (hf : f ≤ 1) (h1 : 1 ≤ g) (h : soundS f (c f) = some (g, l, gd)) (ho : ∀ y, soundS (1 - f) (c (1 - f)) = some y → y.1 < g) (hQ : Q l) : ∃ y, bestS c 2 = some y ∧ Q y.2.2.1 := ⟨_, best_of hf h1 h ho, hQ⟩
theorem Alive.safe (A : Alive S f g l) {Q : List (List Nat) → Prop} (hQ : Q l) : Safe S Q := fun c hc =>
  best_safe A.hf A.fm.2.1 (by rw [out_sure A.lo (hc f A.hf)]; exact A.fm.sound) (fun y hy => A.low _ (hc _ (by omega)) y hy) hQ
theorem Safe.off {Q : List (List Nat) → Prop} (h : Safe S Q) : Safe { S with off := true } Q := h
theorem two_steps (a b : Dk → Int × Dk) (S : Dk) : seqS [a, b] S = if (a S).1 = 0 then (if (b (a S).2).1 = 0 then (0, (b (a S).2).2) else b (a S).2) else a S := rfl
theorem three_steps (a b c : Dk → Int × Dk) (S : Dk) : seqS [a, b, c] S = if (a S).1 = 0 then seqS [b, c] (a S).2 else a S := rfl
theorem four_steps (a b c e : Dk → Int × Dk) (S : Dk) : seqS [a, b, c, e] S = if (a S).1 = 0 then seqS [b, c, e] (a S).2 else a S := rfl
theorem framesS_nil_len (g k : Nat) (L : List (List Nat)) : (framesS g k L).length = wideS L := framesS_len g k L

/-- Add on a vault in order. -/
theorem alive_add (A : Alive S f g l) (hL : longS L = false) :
    (addS f g l.length L S = (7, S, l.length, false) ∧ S.room < wideS L) ∨
    (∃ T, addS f g l.length L S = (0, T, (l ++ L).length, false) ∧ Alive T f g (l ++ L) ∧ wideS L ≤ S.room ∧ T.most = S.most ∧ (S.fuse = -1 → T.fuse = -1)) ∨
    (∃ T, addS f g l.length L S = (8, T, l.length, true) ∧ T.off = true ∧ S.fuse ≠ -1 ∧ ∀ Q : List (List Nat) → Prop, (∀ j, Q (l ++ L.take j)) → Safe T Q) := by
  have hr := longS_none hL
  unfold addS
  by_cases h1 : S.room < wideS L
  · rw [if_pos h1]
    exact .inl ⟨rfl, h1⟩
  rw [if_neg h1]
  by_cases h2 : L = []
  · subst h2
    rw [if_pos rfl]
    refine .inr (.inl ⟨S, by rw [List.append_nil], by rw [List.append_nil]; exact A, by omega, rfl, fun h => h⟩)
  rw [if_neg h2]
  dsimp only
  rw [two_steps]
  have hb : (framesS g l.length L).length ≤ S.room := by rw [framesS_len]; omega
  rcases went_write A.on A.hf hb with ⟨w1, w2⟩ | ⟨w1, w2, w3, w4, w5, w6, w7⟩
  · rw [w2]
    refine .inr (.inr ⟨{ S with off := true }, rfl, rfl, by omega, fun Q hQ => (A.safe ?_).off⟩)
    have := hQ 0
    rwa [List.take_zero, List.append_nil] at this
  · obtain ⟨T1, hT1⟩ : ∃ T1, (S.write (f : Int) (framesS g l.length L)).2 = T1 := ⟨_, rfl⟩
    rw [hT1] at w3 w4 w5 w6 w7
    rw [if_pos w2, hT1]
    have eat : (T1.at f).at = (S.at f).sure ++ framesS g l.length L := by rw [w5, Fl.at_add, A.at_]; rfl
    rcases went_sync w3 A.hf with ⟨v1, v2⟩ | ⟨v1, v2, v3, v4, v5, v6, v7⟩
    · rw [v2]
      refine .inr (.inr ⟨{ T1 with off := true }, rfl, rfl, fun e => by have := w7 e; omega, fun Q hQ c hc => ?_⟩)
      have hc' : ∀ i, i ≤ 1 → Out (T1.at i) (c i) := hc
      have o1 := hc' f A.hf
      have o2 := hc' (1 - f) (by omega)
      rw [w5] at o1
      rw [w6] at o2
      rcases out_write o1 with o1 | ⟨m, o1⟩
      · refine best_safe A.hf A.fm.2.1 (by rw [out_sure A.lo o1]; exact A.fm.sound) (fun y hy => A.low _ o2 y hy) ?_
        have := hQ 0
        rwa [List.take_zero, List.append_nil] at this
      · obtain ⟨j, gd, hj, hs⟩ := A.fm.torn hr m
        rw [A.at_] at o1
        exact best_safe A.hf A.fm.2.1 (by rw [o1]; exact hs) (fun y hy => A.low _ o2 y hy) (hQ j)
    · obtain ⟨T2, hT2⟩ : ∃ T2, (T1.sync (f : Int)).2 = T2 := ⟨_, rfl⟩
      rw [hT2] at v3 v4 v5 v6 v7
      rw [if_pos v2, hT2]
      refine .inr (.inl ⟨T2, by rw [List.length_append]; rfl, ⟨v3, A.hf, ?_, by rw [v5]; rfl, ?_, by rw [v6, w6]; exact A.nil⟩, by omega, v4.trans w4, fun h => v7 (w7 h)⟩)
      · rw [v5]
        show Fm f g (l ++ L) (T1.at f).at
        rw [eat]
        exact A.fm.more hr
      · rw [v6, w6]
        exact A.low
end
end Go.Proofs.YtjcphpmlekfhdaaGreatDoor

/- Compact and Open on a vault in order, or safe. No memory. No condition. -/
namespace Go.Proofs.YtjcphpmlekfhdaaGreatDoor
section
variable {S : Dk} {f g : Nat} {l L : List (List Nat)}
theorem one_sub {f : Nat} (hf : f ≤ 1) : 1 - (1 - f) = f := by omega
theorem Alive.read (A : Alive S f g l) : S.read ((1 - f : Nat) : Int) = ([], 0) := by
  unfold Dk.read
  rw [ask_ok A.on (by omega), if_neg (by simp), Int.toNat_natCast, A.nil]
theorem cutTo_same (S : Dk) (i : Int) (n : Nat) : S.cutTo i n n = (0, S) := by unfold Dk.cutTo; rw [if_pos rfl]
/-- Compact on a vault in order. -/
theorem alive_compact (A : Alive S f g l) (hL : longS L = false) (hn : L.length < 4294967296) :
    (compactS f g l.length L S = (6, S, f, g, l.length, false) ∧ 4611686018427387904 ≤ g) ∨
    (compactS f g l.length L S = (7, S, f, g, l.length, false) ∧ S.room < 44 + wideS L) ∨
    (∃ T, compactS f g l.length L S = (0, T, 1 - f, g + 1, L.length, false) ∧ Alive T (1 - f) (g + 1) L ∧ 44 + wideS L ≤ S.room ∧ T.most = S.most ∧ (S.fuse = -1 → T.fuse = -1) ∧ g < 4611686018427387904) ∨
    (∃ T, compactS f g l.length L S = (8, T, f, g, l.length, true) ∧ T.off = true ∧ S.fuse ≠ -1 ∧ ∀ Q : List (List Nat) → Prop, Q l → Q L → Safe T Q) := by
  have hr := longS_none hL
  have hf := A.hf
  have hfg := A.fm.2
  unfold compactS
  by_cases h1 : 4611686018427387904 ≤ g
  · rw [if_pos h1]
    exact .inl ⟨rfl, h1⟩
  rw [if_neg h1, A.read, if_neg (by simp)]
  have hblen : (frontS (g + 1) L.length ++ framesS (g + 1) 0 L).length = 44 + wideS L := by rw [List.length_append, frontS_len, framesS_len]
  by_cases h2 : S.room < 44 + wideS L
  · rw [if_pos (by rw [hblen]; exact h2)]
    exact .inr (.inl ⟨rfl, h2⟩)
  rw [if_neg (by rw [hblen]; exact h2)]
  dsimp only
  obtain ⟨B, hB⟩ : ∃ B, frontS (g + 1) L.length ++ framesS (g + 1) 0 L = B := ⟨_, rfl⟩
  have hBl : B.length = 44 + wideS L := by rw [← hB]; exact hblen
  have fmB : Fm (1 - f) (g + 1) L B := ⟨⟨L.length, Nat.le_refl _, hn, hB.symm⟩, by omega, by omega, by omega, hr⟩
  have hpart := part_sound (f := 1 - f) (g := g + 1) (L := L) (by omega) (by omega) (by omega) hr hn
  rw [hB] at hpart ⊢
  have e0 : (compactL f (1 - f) ([] : List Nat).length B) = [fun S => S.cutTo ((1 - f : Nat) : Int) 0 0, fun S => S.write ((1 - f : Nat) : Int) B, fun S => S.sync ((1 - f : Nat) : Int), fun S => S.cut (f : Nat) 0] := rfl
  rw [e0, four_steps, cutTo_same, if_pos rfl, three_steps]
  dsimp only
  have ho : 1 - f ≤ 1 := by omega
  -- what is found whatever stands in the other file: none, one below, or the whole new one
  have found : ∀ (c : Nat → List Nat) (Q : List (List Nat) → Prop), Q l → Q L → soundS f (c f) = some (g, l, (S.at f).sure.length) → ((∀ y, soundS (1 - f) (c (1 - f)) = some y → y.1 < g) ∨ ∃ gd, soundS (1 - f) (c (1 - f)) = some (g + 1, L, gd)) → ∃ y, bestS c 2 = some y ∧ Q y.2.2.1 := by
    intro c Q hQl hQL h1 h2
    rcases h2 with h2 | ⟨gd, h2⟩
    · exact best_safe hf hfg.1 h1 h2 hQl
    · exact best_safe ho (by omega) h2 (fun y hy => by
        rw [one_sub hf, h1] at hy
        injection hy with hy
        subst hy
        exact Nat.lt_succ_self g) hQL
  have outB : ∀ L', Out ((S.at (1 - f)).add (.w B)) L' → (∀ y, soundS (1 - f) L' = some y → y.1 < g) ∨ ∃ gd, soundS (1 - f) L' = some (g + 1, L, gd) := by
    intro L' o
    rcases out_write o with o | ⟨m, rfl⟩
    · exact .inl fun y hy => A.low _ o y hy
    · rw [A.nil, List.nil_append]
      rcases hpart m with h | ⟨gd, h⟩
      · exact .inl fun y hy => by rw [h] at hy; cases hy
      · exact .inr ⟨gd, h⟩
  have whole : ∀ x : Fl, x.loose = [] → x.sure = B → ∀ L', Out x L' → ∃ gd, soundS (1 - f) L' = some (g + 1, L, gd) := by
    intro x hx hs L' o
    rw [out_sure hx o, hs]
    exact ⟨_, fmB.sound⟩
  rcases went_write A.on ho (b := B) (by omega) with ⟨w1, w2⟩ | ⟨w1, w2, w3, w4, w5, w6, w7⟩
  · rw [w2]
    exact .inr (.inr (.inr ⟨{ S with off := true }, rfl, rfl, by omega, fun Q hl _ => (A.safe hl).off⟩))
  obtain ⟨T1, hT1⟩ : ∃ T1, (S.write ((1 - f : Nat) : Int) B).2 = T1 := ⟨_, rfl⟩
  rw [hT1] at w3 w4 w5 w6 w7
  rw [if_pos w2, hT1, two_steps]
  rw [one_sub hf] at w6
  rcases went_sync w3 ho with ⟨v1, v2⟩ | ⟨v1, v2, v3, v4, v5, v6, v7⟩
  · rw [v2]
    refine .inr (.inr (.inr ⟨{ T1 with off := true }, rfl, rfl, fun e => by have := w7 e; omega, fun Q hl hL' c hc => ?_⟩))
    have hc' : ∀ i, i ≤ 1 → Out (T1.at i) (c i) := hc
    have o1 := hc' f hf
    have o2 := hc' (1 - f) ho
    rw [w6] at o1
    rw [w5] at o2
    exact found c Q hl hL' (by rw [out_sure A.lo o1]; exact A.fm.sound) (outB _ o2)
  obtain ⟨T2, hT2⟩ : ∃ T2, (T1.sync ((1 - f : Nat) : Int)).2 = T2 := ⟨_, rfl⟩
  rw [hT2] at v3 v4 v5 v6 v7
  rw [if_pos v2, hT2]
  rw [one_sub hf] at v6
  have s2 : (T2.at (1 - f)).sure = B := by
    rw [v5]
    show (T1.at (1 - f)).at = B
    rw [w5, Fl.at_add, A.nil]
    rfl
  have l2 : (T2.at (1 - f)).loose = [] := by rw [v5]; rfl
  have a2 : T2.at f = S.at f := v6.trans w6
  rcases went_cut v3 hf (n := 0) (Nat.zero_le _) with ⟨u1, u2⟩ | ⟨u1, u2, u3, u4, u5, u6, u7⟩
  · have u2' : T2.cut (f : Int) 0 = (8, { T2 with off := true }) := u2
    rw [u2']
    refine .inr (.inr (.inr ⟨{ T2 with off := true }, rfl, rfl, fun e => by have := v7 (w7 e); omega, fun Q hl hL' c hc => ?_⟩))
    have hc' : ∀ i, i ≤ 1 → Out (T2.at i) (c i) := hc
    have o1 := hc' f hf
    have o2 := hc' (1 - f) ho
    rw [a2] at o1
    exact found c Q hl hL' (by rw [out_sure A.lo o1]; exact A.fm.sound) (.inr (whole _ l2 s2 _ o2))
  · obtain ⟨T3, hT3⟩ : ∃ T3, (T2.cut (f : Int) 0) = T3 := ⟨_, rfl⟩
    have hT3' : T2.cut (f : Int) ((0 : Nat) : Int) = T3 := hT3
    rw [hT3'] at u2 u3 u4 u5 u6 u7
    rw [hT3, if_pos u2]
    refine .inr (.inr (.inl ⟨T3.2, by rw [if_pos rfl], ⟨u3, ho, ?_, ?_, ?_, ?_⟩, by omega, u4.trans (v4.trans w4), fun h => u7 (v7 (w7 h)), by omega⟩))
    · rw [u6, s2]
      exact fmB
    · rw [u6]
      exact l2
    · rw [one_sub hf, u5, a2]
      intro L' o y hy
      rcases out_add_cut o with o | o
      · rw [out_sure A.lo o, A.fm.sound] at hy
        injection hy with hy
        subst hy
        exact Nat.lt_succ_self g
      · rw [o, List.take_zero, soundS_short (by decide)] at hy
        cases hy
    · rw [one_sub hf, u5, Fl.at_add]
      show ((T2.at f).at).take 0 = []
      exact List.take_zero

/-- Open on a disk that has power, where what is best has nothing loose. -/
theorem open_gen (on : S.off = false) (hby : AllB (S.at f).sure) {gd : Nat} (hb : bestS (fun i => (S.at i).at) 2 = some (f, g, l, gd)) (lo : (S.at f).loose = []) (hlow : ∀ L, Out (S.at (1 - f)) L → ∀ z, soundS (1 - f) L = some z → z.1 < g) :
    (∃ T, openS S = (0, T, f, g, l) ∧ Alive T f g l ∧ T.most = S.most ∧ (S.fuse = -1 → T.fuse = -1)) ∨
    (∃ T, openS S = (8, T, f, g, l) ∧ T.off = true ∧ S.fuse ≠ -1 ∧ ∀ Q : List (List Nat) → Prop, Q l → Safe T Q) := by
  obtain ⟨hf, hs, _⟩ := best_is hb
  dsimp only at hf hs
  have eat : (S.at f).at = (S.at f).sure := by unfold Fl.at; rw [lo]; rfl
  rw [eat] at hs
  obtain ⟨fm, hgd⟩ := soundS_form hby hs
  have hg1 := fm.2.1
  have ho : 1 - f ≤ 1 := by omega
  have hlen := fm.len
  rw [List.length_take, Nat.min_eq_left hgd] at hlen
  have fs := fm.sound
  unfold openS
  rw [if_neg (by rw [on]; decide), hb]
  dsimp only
  have e0 : ∀ n1 n2, openL f n1 n2 gd = [fun S => S.cutTo (f : Nat) n1 gd, fun S => S.sync (f : Nat), fun S => S.cutTo ((1 : Int) - (f : Nat)) n2 0] := fun _ _ => rfl
  have e1 : (1 : Int) - (f : Nat) = ((1 - f : Nat) : Int) := by omega
  rw [e0, three_steps, e1]
  -- behind the first step: the file is cut
  have safeOf : ∀ (c : Nat → List Nat) (Q : List (List Nat) → Prop), Q l → (c f = (S.at f).sure ∨ c f = (S.at f).sure.take gd) → (Out (S.at (1 - f)) (c (1 - f)) ∨ c (1 - f) = []) → ∃ y, bestS c 2 = some y ∧ Q y.2.2.1 := by
    intro c Q hQ h1 h2
    have h1' : ∃ gd', soundS f (c f) = some (g, l, gd') := by
      rcases h1 with h1 | h1
      · rw [h1]; exact ⟨_, hs⟩
      · rw [h1]; exact ⟨_, fs⟩
    obtain ⟨gd', h1'⟩ := h1'
    refine best_safe hf hg1 h1' (fun y hy => ?_) hQ
    rcases h2 with h2 | h2
    · exact hlow _ h2 y hy
    · rw [h2, soundS_short (by decide)] at hy
      cases hy
  have step1 : (∃ T1, S.cutTo (f : Int) (S.at f).at.length gd = (0, T1) ∧ T1.off = false ∧ T1.most = S.most ∧ (T1.at f).at = (S.at f).sure.take gd ∧ (∀ L, Out (T1.at f) L → L = (S.at f).sure ∨ L = (S.at f).sure.take gd) ∧ T1.at (1 - f) = S.at (1 - f) ∧ (S.fuse = -1 → T1.fuse = -1)) ∨
      (S.fuse = 0 ∧ S.cutTo (f : Int) (S.at f).at.length gd = (8, { S with off := true })) := by
    unfold Dk.cutTo
    by_cases hc : (S.at f).at.length = gd
    · rw [if_pos hc]
      rw [eat] at hc
      refine .inl ⟨S, rfl, on, rfl, by rw [eat, List.take_of_length_le (by omega)], fun L o => .inl (out_sure lo o), rfl, fun h => h⟩
    · rw [if_neg hc]
      rcases went_cut on hf (n := gd) (by rw [eat]; exact hgd) with ⟨w1, w2⟩ | ⟨w1, w2, w3, w4, w5, w6, w7⟩
      · exact .inr ⟨w1, w2⟩
      · refine .inl ⟨_, Prod.ext w2 rfl, w3, w4, by rw [w5, Fl.at_add, eat]; rfl, fun L o => ?_, w6, w7⟩
        rw [w5] at o
        rcases out_add_cut o with o | o
        · exact .inl (out_sure lo o)
        · rw [eat] at o
          exact .inr o
  rcases step1 with ⟨T1, h1, w3, w4, w5, w5', w6, w7⟩ | ⟨h0, h1⟩
  · rw [h1, if_pos rfl, two_steps]
    dsimp only
    rcases went_sync w3 hf with ⟨v1, v2⟩ | ⟨v1, v2, v3, v4, v5, v6, v7⟩
    · rw [v2]
      refine .inr ⟨{ T1 with off := true }, rfl, rfl, fun e => by have := w7 e; omega, fun Q hQ c hc => ?_⟩
      have hc' : ∀ i, i ≤ 1 → Out (T1.at i) (c i) := hc
      have o1 := hc' f hf
      have o2 := hc' (1 - f) ho
      rw [w6] at o2
      exact safeOf c Q hQ (w5' _ o1) (.inl o2)
    · obtain ⟨T2, hT2⟩ : ∃ T2, (T1.sync (f : Int)).2 = T2 := ⟨_, rfl⟩
      rw [hT2] at v3 v4 v5 v6 v7
      rw [if_pos v2, hT2]
      have s2 : (T2.at f).sure = (S.at f).sure.take gd := by rw [v5]; exact w5
      have l2 : (T2.at f).loose = [] := by rw [v5]; rfl
      have a2 : T2.at (1 - f) = S.at (1 - f) := v6.trans w6
      unfold Dk.cutTo
      by_cases hc : (S.at (1 - f)).at.length = 0
      · rw [if_pos hc]
        refine .inl ⟨T2, rfl, ⟨v3, hf, by rw [s2]; exact fm, l2, by rw [a2]; exact hlow, by rw [a2]; exact List.eq_nil_of_length_eq_zero hc⟩, v4.trans w4, fun h => v7 (w7 h)⟩
      · rw [if_neg hc]
        rcases went_cut v3 ho (n := 0) (Nat.zero_le _) with ⟨u1, u2⟩ | ⟨u1, u2, u3, u4, u5, u6, u7⟩
        · rw [u2]
          refine .inr ⟨{ T2 with off := true }, rfl, rfl, fun e => by have := v7 (w7 e); omega, fun Q hQ c hc => ?_⟩
          have hc' : ∀ i, i ≤ 1 → Out (T2.at i) (c i) := hc
          have o1 := hc' f hf
          have o2 := hc' (1 - f) ho
          rw [a2] at o2
          exact safeOf c Q hQ (.inr (by rw [out_sure l2 o1, s2])) (.inl o2)
        · obtain ⟨T3, hT3⟩ : ∃ T3, (T2.cut ((1 - f : Nat) : Int) ((0 : Nat) : Int)) = T3 := ⟨_, rfl⟩
          rw [hT3] at u2 u3 u4 u5 u6 u7
          rw [one_sub hf] at u6
          rw [hT3, if_pos u2]
          refine .inl ⟨T3.2, rfl, ⟨u3, hf, by rw [u6, s2]; exact fm, by rw [u6]; exact l2, ?_, ?_⟩, u4.trans (v4.trans w4), fun h => u7 (v7 (w7 h))⟩
          · rw [u5, a2]
            intro L' o y hy
            rcases out_add_cut o with o | o
            · exact hlow _ o y hy
            · rw [o, List.take_zero, soundS_short (by decide)] at hy
              cases hy
          · rw [u5, Fl.at_add]
            show ((T2.at (1 - f)).at).take 0 = []
            exact List.take_zero
  · rw [h1]
    refine .inr ⟨{ S with off := true }, rfl, rfl, by omega, fun Q hQ c hc => ?_⟩
    have hc' : ∀ i, i ≤ 1 → Out (S.at i) (c i) := hc
    exact safeOf c Q hQ (.inl (out_sure lo (hc' f hf))) (.inl (hc' (1 - f) ho))
/-- Open behind a crash. -/
theorem safe_open {Q : List (List Nat) → Prop} (on : S.off = false) (O : S.Ok) (l0 : (S.at 0).loose = []) (l1 : (S.at 1).loose = []) (hs : Safe S Q) :
    ∃ f g l, Q l ∧ ((∃ T, openS S = (0, T, f, g, l) ∧ Alive T f g l ∧ T.most = S.most ∧ (S.fuse = -1 → T.fuse = -1)) ∨
    (∃ T, openS S = (8, T, f, g, l) ∧ T.off = true ∧ S.fuse ≠ -1 ∧ Safe T Q)) := by
  have hlo : ∀ i, i ≤ 1 → (S.at i).loose = [] := fun i hi => by
    have e : i = 0 ∨ i = 1 := by omega
    rcases e with rfl | rfl
    · exact l0
    · exact l1
  obtain ⟨⟨f, g, l, gd⟩, hb, hQ⟩ := hs (fun i => (S.at i).at) fun i _ => out_at _
  obtain ⟨hf, h1, h2⟩ := best_is hb
  dsimp only at hf h1 h2 hQ
  have hby : AllB (S.at f).sure := by
    have e : f = 0 ∨ f = 1 := by omega
    rcases e with rfl | rfl
    · exact O.bf.1
    · exact O.bg.1
  have ho : 1 - f ≤ 1 := by omega
  refine ⟨f, g, l, hQ, ?_⟩
  rcases open_gen on hby hb (hlo f hf) (fun L o z hz => h2 z (by
    rw [out_sure (hlo _ ho) o] at hz
    show soundS (1 - f) (S.at (1 - f)).at = _
    unfold Fl.at
    rw [hlo _ ho]
    exact hz)) with h | ⟨T, a, b, c, d⟩
  · exact .inl h
  · exact .inr ⟨T, a, b, c, d Q hQ⟩
/-- Open of a vault in order. -/
theorem alive_open (A : Alive S f g l) (O : S.Ok) :
    (∃ T, openS S = (0, T, f, g, l) ∧ Alive T f g l ∧ T.most = S.most ∧ (S.fuse = -1 → T.fuse = -1)) ∨
    (∃ T, openS S = (8, T, f, g, l) ∧ T.off = true ∧ S.fuse ≠ -1 ∧ ∀ Q : List (List Nat) → Prop, Q l → Safe T Q) := by
  have hby : AllB (S.at f).sure := by
    have e : f = 0 ∨ f = 1 := by have := A.hf; omega
    rcases e with rfl | rfl
    · exact O.bf.1
    · exact O.bg.1
  exact open_gen A.on hby A.best A.lo A.low
/-- A new disk. -/
theorem new_open {m : Nat} (hm : 44 ≤ m) : ∃ T, openS (newD m) = (0, T, 1, 1, []) ∧ Alive T 1 1 [] ∧ T.most = m ∧ T.fuse = -1 := by
  have hb : bestS (fun i => ((newD m).at i).at) 2 = none := by
    have h0 : soundS 0 ((newD m).at 0).at = none := soundS_short (by show ([] : List Nat).length < 44; decide)
    have h1 : soundS 1 ((newD m).at 1).at = none := soundS_short (by show ([] : List Nat).length < 44; decide)
    rw [bestS_none (i := 1) h1, bestS_none (i := 0) h0]
    rfl
  unfold openS
  rw [if_neg (by simp [newD]), hb]
  dsimp only
  have e0 : beginL (newD m).g.at.length (newD m).f.at.length = [fun S => S.cutTo 1 0 0, fun S => S.cutTo 0 0 0, fun S => S.write 1 (frontS 1 0), fun S => S.sync 1] := rfl
  rw [e0, four_steps, cutTo_same, if_pos rfl, three_steps, cutTo_same, if_pos rfl, two_steps]
  dsimp only
  have hw : (newD m).write 1 (frontS 1 0) = (0, ⟨m, false, -1, ⟨[], []⟩, ⟨[], [.w (frontS 1 0)]⟩⟩) := by
    have hl := frontS_len 1 0
    obtain ⟨F, hF⟩ : ∃ F, frontS 1 0 = F := ⟨_, rfl⟩
    rw [hF] at hl ⊢
    unfold Dk.write
    have e1 : (newD m).ask 1 = 0 := rfl
    have e2 : (newD m).room = m := by unfold Dk.room newD; rfl
    rw [e1, e2, if_neg (by simp), if_neg (by omega)]
    rfl
  rw [hw, if_pos rfl]
  dsimp only
  have hy : (⟨m, false, -1, ⟨[], []⟩, ⟨[], [.w (frontS 1 0)]⟩⟩ : Dk).sync 1 = (0, ⟨m, false, -1, ⟨[], []⟩, ⟨frontS 1 0, []⟩⟩) := by
    obtain ⟨F, hF⟩ : ∃ F, frontS 1 0 = F := ⟨_, rfl⟩
    rw [hF]
    rfl
  rw [hy, if_pos rfl]
  refine ⟨_, rfl, ⟨rfl, Nat.le_refl _, ⟨⟨0, Nat.le_refl _, by decide, ?_⟩, by decide, by decide, by decide, fun r hr => by cases hr⟩, rfl, fun L o y hy => ?_, rfl⟩, rfl, rfl⟩
  · show frontS 1 0 = frontS 1 0 ++ framesS 1 0 []
    rw [framesS, List.append_nil]
  · rw [out_sure rfl o] at hy
    rw [soundS_short (by show ([] : List Nat).length < 44; decide)] at hy
    cases hy
end
end Go.Proofs.YtjcphpmlekfhdaaGreatDoor

/- The example, and a crash between two Opens. No memory. No condition. -/
namespace Go.Proofs.YtjcphpmlekfhdaaGreatDoor
section
variable {S : Dk} {f g : Nat} {l L : List (List Nat)}
theorem cnt_seq : ∀ {l : List (Dk → Int × Dk)} (S : Dk), (∀ i, i < l.length → ∀ S, (stepAt l i S).2.cnt ≤ S.cnt + 1) → (seqS l S).2.cnt ≤ S.cnt + l.length
  | [], S, _ => Nat.le_refl _
  | f :: l, S, h => by
    have h0 := h 0 (by simp) S
    have e0 : stepAt (f :: l) 0 S = f S := rfl
    rw [e0] at h0
    rw [seqS]
    split
    · have := cnt_seq (l := l) (f S).2 fun i hi T => h (i + 1) (by simpa using hi) T
      rw [List.length_cons]
      omega
    · rw [List.length_cons]
      omega
theorem cnt_openS (S : Dk) : (openS S).2.1.cnt ≤ S.cnt + 4 := by
  unfold openS
  split
  · exact Nat.le_add_right _ _
  · split
    · exact cnt_seq S fun j hj T => by
        have hj3 : j < 4 := hj
        have e : j = 0 ∨ j = 1 ∨ j = 2 ∨ j = 3 := by omega
        rcases e with rfl | rfl | rfl | rfl
        · exact cnt_cutTo _ _ _ _
        · exact cnt_cutTo _ _ _ _
        · exact cnt_write _ _ _
        · exact cnt_sync _ _
    · refine Nat.le_trans (cnt_seq S fun j hj T => ?_) (Nat.add_le_add_left (by decide : 3 ≤ 4) _)
      have hj3 : j < 3 := hj
      have e : j = 0 ∨ j = 1 ∨ j = 2 := by omega
      rcases e with rfl | rfl | rfl
      · exact cnt_cutTo _ _ _ _
      · exact cnt_sync _ _
      · exact cnt_cutTo _ _ _ _
theorem cnt_addS (file gen count : Nat) (l : List (List Nat)) (S : Dk) : (addS file gen count l S).2.1.cnt ≤ S.cnt + 4 := by
  unfold addS
  split
  · exact Nat.le_add_right _ _
  · split
    · exact Nat.le_add_right _ _
    · refine Nat.le_trans (cnt_seq S fun j hj T => ?_) (Nat.add_le_add_left (by decide : 2 ≤ 4) _)
      have hj3 : j < 2 := hj
      have e : j = 0 ∨ j = 1 := by omega
      rcases e with rfl | rfl
      · exact cnt_write _ _ _
      · exact cnt_sync _ _
theorem cnt_compactS (file gen count : Nat) (l : List (List Nat)) (S : Dk) : (compactS file gen count l S).2.1.cnt ≤ S.cnt + 4 := by
  unfold compactS
  split
  · exact Nat.le_add_right _ _
  · split
    · exact Nat.le_add_right _ _
    · split
      · exact Nat.le_add_right _ _
      · dsimp only
        have h := cnt_seq (l := compactL file (1 - file) (S.read ((1 - file : Nat) : Int)).1.length (frontS (gen + 1) l.length ++ framesS (gen + 1) 0 l)) S fun j hj T => by
          have hj3 : j < 4 := hj
          have e : j = 0 ∨ j = 1 ∨ j = 2 ∨ j = 3 := by omega
          rcases e with rfl | rfl | rfl | rfl
          · exact cnt_cutTo _ _ _ _
          · exact cnt_write _ _ _
          · exact cnt_sync _ _
          · exact cnt_cut _ _ _
        split
        · exact h
        · exact h
theorem cnt_goOn (S : Dk) (h : S.off = true) (p : List Int) : (S.goOn p).2.cnt = 0 := by
  unfold Dk.goOn
  rw [if_pos h]
  rfl
/-- Power again: what stands in each file is an outcome, and nothing is loose. -/
theorem on_spec (h : S.off = true) (p : List Int) : ∃ T, S.goOn p = (0, T) ∧ T.off = false ∧ T.fuse = -1 ∧ T.most = S.most ∧ T.cnt = 0 ∧ ∀ i, i ≤ 1 → (T.at i).loose = [] ∧ Out (S.at i) (T.at i).sure ∧ T.at i = (S.at i).lose (pick p i) := by
  refine ⟨(S.goOn p).2, ?_, ?_, ?_, ?_, cnt_goOn S h p, fun i hi => ?_⟩
  · unfold Dk.goOn; rw [if_pos h]
  · unfold Dk.goOn; rw [if_pos h]
  · unfold Dk.goOn; rw [if_pos h]
  · unfold Dk.goOn; rw [if_pos h]
  · have e : i = 0 ∨ i = 1 := by omega
    unfold Dk.goOn
    rw [if_pos h]
    rcases e with rfl | rfl
    · exact ⟨rfl, ⟨_, rfl⟩, rfl⟩
    · exact ⟨rfl, ⟨_, rfl⟩, rfl⟩
theorem fl_at {x : Fl} (h : x.loose = []) : x.at = x.sure := by
  unfold Fl.at
  rw [h]
  rfl
/-- Whatever was safe is safe when there is power again. -/
theorem Safe.on {Q : List (List Nat) → Prop} (hs : Safe S Q) {T : Dk} (h : ∀ i, i ≤ 1 → (T.at i).loose = [] ∧ Out (S.at i) (T.at i).sure) : Safe T Q := fun c hc =>
  hs c fun i hi => by
    rw [out_sure (h i hi).1 (hc i hi)]
    exact (h i hi).2
/-- A vault in order, a crash, and power again: it is found. -/
theorem Alive.again (A : Alive S f g l) {T : Dk} (O : T.Ok) (on : T.off = false) (hfu : T.fuse = -1) (h : ∀ i, i ≤ 1 → (T.at i).loose = [] ∧ Out (S.at i) (T.at i).sure) :
    ∃ U, openS T = (0, U, f, g, l) ∧ Alive U f g l ∧ U.most = T.most ∧ U.fuse = -1 := by
  have hf := A.hf
  have ho : 1 - f ≤ 1 := by omega
  have e1 := out_sure A.lo (h f hf).2
  have hby : AllB (T.at f).sure := by
    have e : f = 0 ∨ f = 1 := by omega
    rcases e with rfl | rfl
    · exact O.bf.1
    · exact O.bg.1
  have hb : bestS (fun i => (T.at i).at) 2 = some (f, g, l, (S.at f).sure.length) := by
    refine best_of hf A.fm.2.1 ?_ fun y hy => ?_
    · show soundS f (T.at f).at = _
      rw [fl_at (h f hf).1, e1]
      exact A.fm.sound
    · have hy' : soundS (1 - f) (T.at (1 - f)).at = some y := hy
      rw [fl_at (h _ ho).1] at hy'
      exact A.low _ (h _ ho).2 y hy'
  rcases open_gen on hby hb (h f hf).1 (fun L o z hz => by
    rw [out_sure (h _ ho).1 o] at hz
    exact A.low _ (h _ ho).2 z hz) with ⟨U, a, b, c, e⟩ | ⟨U, a, b, c, _⟩
  · exact ⟨U, a, b, c, e hfu⟩
  · exact absurd hfu c
/-- The power goes at the sync of an Add. -/
theorem alive_add1 (A : Alive S f g l) (hL : longS L = false) (h0 : L ≠ []) (hroom : wideS L ≤ S.room) (hfu : S.fuse = 1) :
    ∃ T, addS f g l.length L S = (8, T, l.length, true) ∧ T.off = true ∧ T.most = S.most ∧ T.at f = (S.at f).add (.w (framesS g l.length L)) ∧ T.at (1 - f) = S.at (1 - f) := by
  unfold addS
  rw [if_neg (by omega), if_neg h0]
  dsimp only
  rw [two_steps]
  have hw : S.write (f : Int) (framesS g l.length L) = (0, ({ S with fuse := 0 } : Dk).put f ((S.at f).add (.w (framesS g l.length L)))) := by
    unfold Dk.write
    rw [ask_ok A.on A.hf, if_neg (by simp), if_neg (by rw [framesS_len]; omega)]
    unfold Dk.burn
    rw [if_neg (by rw [hfu]; decide), Int.toNat_natCast, hfu]
    rfl
  obtain ⟨T1, hT1⟩ : ∃ T1, ({ S with fuse := 0 } : Dk).put f ((S.at f).add (.w (framesS g l.length L))) = T1 := ⟨_, rfl⟩
  have t1 : T1.off = false ∧ T1.fuse = 0 ∧ T1.most = S.most ∧ T1.at f = (S.at f).add (.w (framesS g l.length L)) ∧ T1.at (1 - f) = S.at (1 - f) := by
    rw [← hT1]
    exact ⟨(put_most _ _ _).2.1.trans A.on, (put_most _ _ _).2.2, (put_most _ _ _).1, put_same _ A.hf _, put_other _ A.hf _⟩
  rw [hw, hT1, if_pos rfl]
  dsimp only
  have hs : T1.sync (f : Int) = (8, { T1 with off := true }) := by
    unfold Dk.sync
    rw [ask_ok t1.1 A.hf, if_neg (by simp)]
    unfold Dk.burn
    rw [if_pos t1.2.1]
  rw [hs]
  exact ⟨{ T1 with off := true }, rfl, rfl, t1.2.2.1, t1.2.2.2.1, t1.2.2.2.2⟩
theorem Alive.fuse (A : Alive S f g l) (n : Int) : ∃ T, S.setFuse n = (0, T) ∧ Alive T f g l ∧ T.fuse = max n (-1) ∧ T.most = S.most ∧ T.cnt = S.cnt := by
  refine ⟨{ S with fuse := max n (-1) }, ?_, ⟨A.on, A.hf, A.fm, A.lo, A.low, A.nil⟩, rfl, rfl, rfl⟩
  unfold Dk.setFuse
  rw [if_neg (by rw [A.on]; decide)]
theorem Alive.off (A : Alive S f g l) : S.goOff = (0, { S with off := true }) := by
  unfold Dk.goOff
  rw [if_neg (by rw [A.on]; decide)]
end
end Go.Proofs.YtjcphpmlekfhdaaGreatDoor

/- The document's Same: are two lists of records the same? No condition but bounds. -/
namespace Go.Proofs.YtjcphpmlekfhdaaGreatDoor
open Go.RowKit

set_option maxRecDepth 100000 in
set_option maxHeartbeats 4000000 in
theorem same_any {A B : Option Addr} {n m c d : Nat} {l k : List (List Nat)} (w : World) (hA : Rows w anyP 1 ByR A n l) (hB : Rows w anyP 1 ByR B m k) (hn : n ≤ 1099511627776) :
    Calls Tryz.prog 19 #[.slice A n c, .slice B m d] w fun e w' => e = .returned (.bool (decide (l = k))) ∧ Below w.heap.size w w' := by
  have HA := Lib.hid hA
  have HB := Lib.hid hB
  have lA := hA.len
  have lB := hB.len
  clear hA hB
  by_cases hnm : n = m
  · subst hnm
    have t1 : ((n : Int) != (n : Int)) = false := by rw [bne_eq_false_iff_eq]
    go_enter Tryz.func19, Tryz.ntmps19
    go_wp2_with fail
    go_loopw [5] (fun i wr => ∃ j : Nat, j ≤ n ∧ i = .int .i64 (j : Nat) ∧ Below w.heap.size w wr ∧ l.take j = k.take j) (fun i _ => n - (intOf i).toNat)
    case atStart => exact ⟨0, Nat.zero_le _, rfl, Below.refl _ _, by simp⟩
    case round =>
      obtain ⟨j, hj, rfl, hb, he⟩ := hrel
      by_cases hjn : j < n
      · have t2 : decide ((j : Int) < (n : Int)) = true := decide_eq_true (by omega)
        have hjl : j < l.length := by omega
        have hjk : j < k.length := by omega
        have HRA := Rows.later byM HA.out hb
        have HRB := Rows.later byM HB.out hb
        obtain ⟨b1, o1, rfl⟩ := rows_some HRA (by omega)
        obtain ⟨b2, o2, rfl⟩ := rows_some HRB (by omega)
        obtain ⟨_, A', ca, c1, hca, _, _, s1⟩ := by_at HRA hjl
        obtain ⟨_, B', cb, c2, hcb, _, _, s2⟩ := by_at HRB hjk
        have bd : Below wr.heap.size wr wr.drew := (Below.refl _ _).drew
        have r1 := run_str (c := ca) (s1.bs.later bd)
        have r2 := run_str (c := cb) (s2.bs.later bd)
        have e1 := str_dec s1.bs.byt s2.bs.byt
        have HE1 : l.take (j + 1) = l.take j ++ [l[j]] := by rw [List.take_add_one, List.getElem?_eq_getElem hjl]; rfl
        have HE2 : k.take (j + 1) = k.take j ++ [k[j]] := by rw [List.take_add_one, List.getElem?_eq_getElem hjk]; rfl
        obtain ⟨q1, hq1⟩ : ∃ q, l[j].length = q := ⟨_, rfl⟩
        obtain ⟨q2, hq2⟩ : ∃ q, k[j].length = q := ⟨_, rfl⟩
        rw [hq1] at c1 r1
        rw [hq2] at c2 r2
        obtain ⟨S, hS⟩ : ∃ S, strB l[j] = S := ⟨_, rfl⟩
        obtain ⟨T, hT⟩ : ∃ S, strB k[j] = S := ⟨_, rfl⟩
        rw [hS] at r1 e1
        rw [hT] at r2 e1
        have HBB := Lib.hid hb
        by_cases hlk : l[j] = k[j]
        · rw [decide_eq_true hlk] at e1
          have HT : Hid (l.take (j + 1) = k.take (j + 1)) := Lib.hid (by rw [HE1, HE2, he, hlk])
          clear he HE1 HE2 hlk hS hT s1 s2 HRA HRB hq1 hq2 hb
          go_wp2_with fail
          go_region
          go_wp2_with fail
          go_roundw
          case rel => exact ⟨j + 1, by omega, by go_num, HBB.out.drew, HT.out⟩
          case measure => simp [intOf]; omega
        · rw [decide_eq_false hlk] at e1
          have HNE : Hid (decide (l = k) = false) := Lib.hid (decide_eq_false fun h => hlk (by subst h; rfl))
          clear he HE1 HE2 hlk hS hT s1 s2 HRA HRB hq1 hq2 hb
          go_wp2_with fail
          go_region
          go_wp2_with fail
          go_ret
          exact ⟨by rw [HNE.out]; rfl, HBB.out.drew⟩
      · have t2 : decide ((j : Int) < (n : Int)) = false := decide_eq_false (by omega)
        have HEQ : Hid (decide (l = k) = true) := Lib.hid (decide_eq_true (by rwa [List.take_of_length_le (by omega), List.take_of_length_le (by omega)] at he))
        have HBB := Lib.hid hb
        clear he hb
        go_wp2_with fail
        go_ret
        exact ⟨by rw [HEQ.out]; rfl, HBB.out⟩
  · have t1 : ((n : Int) != (m : Int)) = true := by rw [bne_iff_ne]; omega
    have hne : Hid (decide (l = k) = false) := Lib.hid (decide_eq_false fun h => hnm (by rw [← lA, ← lB, h]))
    clear lA lB
    go_enter Tryz.func19, Tryz.ntmps19
    go_wp2_with fail
    go_ret
    exact ⟨by rw [hne.out]; rfl, Below.refl _ _⟩
end Go.Proofs.YtjcphpmlekfhdaaGreatDoor
