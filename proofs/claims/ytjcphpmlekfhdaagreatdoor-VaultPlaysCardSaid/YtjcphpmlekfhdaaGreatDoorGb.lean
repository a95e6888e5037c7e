/- The schedule of a piece, as the code builds it. No condition but that the piece is 64 bytes. -/
import Derived.Test.YtjcphpmlekfhdaaGreatDoorGa
import Derived.Deep.MidRow

namespace Go.Proofs.YtjcphpmlekfhdaaGreatDoor
open Go.RowKit

/-- The words so far, the rest noughts. -/
def upW (W : List Nat) (n : Nat) : List Nat := W ++ List.replicate (n - W.length) 0
theorem upW_len {W : List Nat} {n : Nat} (h : W.length ≤ n) : (upW W n).length = n := by simp [upW]; omega
theorem upW_get {W : List Nat} {n k : Nat} (h : k < W.length) : nth (upW W n) k = nth W k := nth_left h
theorem upW_set {W : List Nat} {n : Nat} (x : Nat) (h : W.length < n) : (upW W n).set W.length x = upW (W ++ [x]) n := by
  unfold upW
  rw [List.set_append_right _ _ (Nat.le_refl _), Nat.sub_self, List.length_append, List.length_singleton, List.append_assoc]
  congr 1
  rw [show n - W.length = (n - (W.length + 1)) + 1 by omega, List.replicate_succ]
  rfl
theorem upW_full {W : List Nat} {n : Nat} (h : W.length = n) : upW W n = W := by unfold upW; rw [h]; simp

structure SpA (w : World) (p : List Nat) (t : Nat) (wr : World) : Prop where
  src : Ro wr w.heap.size 151 (vals p)
  res : Ro wr (w.heap.size + 1) 164 (u32s (List.replicate 64 0))
  out : Ro wr (w.heap.size + 2) 164 (u32s (upW (sched p t) 64))
  bel : Below w.heap.size w wr
theorem SpA.step {w : World} {p : List Nat} {t x : Nat} {wr : World} (h : SpA w p t wr) (ht : t < 64) (hx : x = if t < 16 then word p t else wnext (sched p t) t) : SpA w p (t + 1) (wr.setCell ⟨w.heap.size + 2, t, none⟩ (.int .u32 (x : Int))) := by
  refine ⟨h.src.other (by omega) _, h.res.other (by omega) _, ?_, h.bel.setCell (by simp) _⟩
  have h1 := h.out.set32 t x
  have h2 := upW_set (W := sched p t) (n := 64) x (by rw [sched_len]; exact ht)
  rw [sched_len] at h2
  rw [h2, hx] at h1
  rw [hx]
  exact h1
theorem SpA.drew {w : World} {p : List Nat} {t : Nat} {wr : World} (h : SpA w p t wr) : SpA w p t wr.drew := ⟨h.src.later (Below.refl _ _).drew, h.res.later (Below.refl _ _).drew, h.out.later (Below.refl _ _).drew, h.bel.drew⟩

theorem word_bits {x0 x1 x2 x3 : Nat} (b0 : x0 < 256) (b1 : x1 < 256) (b2 : x2 < 256) :
    bits .or .u32 (bits .or .u32 (bits .or .u32 ((x0 : Int) * 16777216) ((x1 : Int) * 65536)) ((x2 : Int) * 256)) (x3 : Int) = ((og (og (og (sl x0 24) (sl x1 16)) (sl x2 8)) x3 : Nat) : Int) := by
  rw [show (x0 : Int) * 16777216 = ((sl x0 24 : Nat) : Int) by unfold sl; omega, show (x1 : Int) * 65536 = ((sl x1 16 : Nat) : Int) by unfold sl; omega, show (x2 : Int) * 256 = ((sl x2 8 : Nat) : Int) by unfold sl; omega, bits_og, bits_og, bits_og]
theorem next_bits (x2 x7 x15 x16 : Nat) : (bits .xor .u32 (bits .xor .u32 ((rr x2 17 : Nat) : Int) ((rr x2 19 : Nat) : Int)) ((x2 : Int) / 1024) + (x7 : Int) + bits .xor .u32 (bits .xor .u32 ((rr x15 7 : Nat) : Int) ((rr x15 18 : Nat) : Int)) ((x15 : Int) / 8) + (x16 : Int)) % 4294967296
    = ((ad (ad (ad (sg1 x2) x7) (sg0 x15)) x16 : Nat) : Int) := by
  rw [show (x2 : Int) / 1024 = ((sh x2 10 : Nat) : Int) by unfold sh; omega, show (x15 : Int) / 8 = ((sh x15 3 : Nat) : Int) by unfold sh; omega, bits_xo, bits_xo, bits_xo, bits_xo]
  unfold ad sg1 sg0
  omega
theorem SpA.get {w : World} {p : List Nat} {t k : Nat} {wr : World} (h : SpA w p t wr) (ht : t ≤ 64) (hk : k < t) : wr.cell? ⟨w.heap.size + 2, k, none⟩ = some (.int .u32 (nth (sched p t) k : Nat)) := by
  have := h.out.u32 (k := k) (by rw [upW_len (by rw [sched_len]; omega)]; omega)
  rwa [upW_get (by rw [sched_len]; omega)] at this
theorem SpA.start (w : World) (p : List Nat) : SpA w p 0 (((w.alloc (.cells (vals p).toArray 151)).alloc (.cells (u32s (List.replicate 64 0)).toArray 164)).alloc (.cells (u32s (List.replicate 64 0)).toArray 164)) := by
  refine ⟨((Ro.new w _ _).alloc _).alloc _, ?_, ?_, (((Below.refl _ _).alloc (Nat.le_refl _) _).alloc (by simp) _).alloc (by simp; omega) _⟩
  · have := (Ro.new (w.alloc (.cells (vals p).toArray 151)) 164 (u32s (List.replicate 64 0))).alloc (.cells (u32s (List.replicate 64 0)).toArray 164)
    rwa [World.size_alloc] at this
  · have := Ro.new ((w.alloc (.cells (vals p).toArray 151)).alloc (.cells (u32s (List.replicate 64 0)).toArray 164)) 164 (u32s (List.replicate 64 0))
    rw [World.size_alloc, World.size_alloc] at this
    exact this

set_option maxRecDepth 100000 in
set_option maxHeartbeats 4000000 in
theorem spread_any {p : List Nat} (hp : p.length = 64) (hb : AllB p) (w : World) : Calls Tryz.prog 114 #[.agg (vals p).toArray] w fun e w' => e = .returned (.agg (u32s (sched p 64)).toArray) ∧ Below w.heap.size w w' := by
  have HP := Lib.hid hp
  have HB := Lib.hid hb
  clear hp hb
  go_enter Tryz.func114, Tryz.ntmps114
  go_wp2_with fail
  go_loopw [10] (fun i wr => ∃ t : Nat, t ≤ 16 ∧ i = .int .i64 (t : Nat) ∧ SpA w p t wr) (fun i _ => 16 - (intOf i).toNat)
  case atStart => exact ⟨0, by omega, rfl, SpA.start w p⟩
  case round =>
    obtain ⟨t, ht, rfl, S⟩ := hrel
    by_cases hlt : t < 16
    · have t1 : decide ((t : Int) < 16) = true := decide_eq_true (by omega)
      have l0 := S.src.u8 (k := 4 * t) (by rw [HP.out]; omega)
      have l1 := S.src.u8 (k := 4 * t + 1) (by rw [HP.out]; omega)
      have l2 := S.src.u8 (k := 4 * t + 2) (by rw [HP.out]; omega)
      have l3 := S.src.u8 (k := 4 * t + 3) (by rw [HP.out]; omega)
      have b0 := nth_lt HB.out (4 * t)
      have b1 := nth_lt HB.out (4 * t + 1)
      have b2 := nth_lt HB.out (4 * t + 2)
      have b3 := nth_lt HB.out (4 * t + 3)
      obtain ⟨x0, hx0⟩ : ∃ x, nth p (4 * t) = x := ⟨_, rfl⟩
      obtain ⟨x1, hx1⟩ : ∃ x, nth p (4 * t + 1) = x := ⟨_, rfl⟩
      obtain ⟨x2, hx2⟩ : ∃ x, nth p (4 * t + 2) = x := ⟨_, rfl⟩
      obtain ⟨x3, hx3⟩ : ∃ x, nth p (4 * t + 3) = x := ⟨_, rfl⟩
      rw [hx0] at l0 b0
      rw [hx1] at l1 b1
      rw [hx2] at l2 b2
      rw [hx3] at l3 b3
      have hc := S.out.u32 (k := t) (by rw [upW_len (by rw [sched_len]; omega)]; omega)
      have hf := S.out.free t
      have hw : word p t = og (og (og (sl x0 24) (sl x1 16)) (sl x2 8)) x3 := by unfold word; rw [hx0, hx1, hx2, hx3]
      have HW := Lib.hid hw
      have HS := Lib.hid S
      clear hw hx0 hx1 hx2 hx3 S
      go_wp2_with fail
      go_region
      go_wp2_with fail
      have E := word_bits (x3 := x3) b0 b1 b2
      rw [E, ← HW.out]
      refine ⟨⟨t + 1, by omega, by go_num, (HS.out.step (by omega) (by rw [if_pos hlt])).drew⟩, by simp [intOf]; omega⟩
    · obtain rfl : t = 16 := by omega
      rw [show ((16 : Nat) : Int) = 16 from rfl]
      have HS := Lib.hid S
      clear S
      go_wp2_with fail
      go_loopw [5] (fun i wr => ∃ t : Nat, 16 ≤ t ∧ t ≤ 64 ∧ i = .int .i64 (t : Nat) ∧ SpA w p t wr) (fun i _ => 64 - (intOf i).toNat)
      case atStart => exact ⟨16, by omega, by omega, rfl, HS.out⟩
      case round =>
        obtain ⟨t, h16, ht, rfl, S⟩ := hrel
        by_cases hlt : t < 64
        · have t1 : decide ((t : Int) < 64) = true := decide_eq_true (by omega)
          have l15 := S.get ht (k := t - 15) (by omega)
          have l2 := S.get ht (k := t - 2) (by omega)
          have l7 := S.get ht (k := t - 7) (by omega)
          have l16 := S.get ht (k := t - 16) (by omega)
          have hc := S.out.u32 (k := t) (by rw [upW_len (by rw [sched_len]; omega)]; omega)
          have hf := S.out.free t
          have e15 : (t : Int) - 15 = ((t - 15 : Nat) : Int) := by omega
          have e2 : (t : Int) - 2 = ((t - 2 : Nat) : Int) := by omega
          have e7 : (t : Int) - 7 = ((t - 7 : Nat) : Int) := by omega
          have e16 : (t : Int) - 16 = ((t - 16 : Nat) : Int) := by omega
          obtain ⟨x15, hx15⟩ : ∃ x, nth (sched p t) (t - 15) = x := ⟨_, rfl⟩
          obtain ⟨x2, hx2⟩ : ∃ x, nth (sched p t) (t - 2) = x := ⟨_, rfl⟩
          obtain ⟨x7, hx7⟩ : ∃ x, nth (sched p t) (t - 7) = x := ⟨_, rfl⟩
          obtain ⟨x16, hx16⟩ : ∃ x, nth (sched p t) (t - 16) = x := ⟨_, rfl⟩
          rw [hx15] at l15
          rw [hx2] at l2
          rw [hx7] at l7
          rw [hx16] at l16
          have hw : wnext (sched p t) t = ad (ad (ad (sg1 x2) x7) (sg0 x15)) x16 := by unfold wnext; rw [hx15, hx2, hx7, hx16]
          obtain ⟨j15, hj15⟩ : ∃ j, t - 15 = j := ⟨_, rfl⟩
          obtain ⟨j2, hj2⟩ : ∃ j, t - 2 = j := ⟨_, rfl⟩
          obtain ⟨j7, hj7⟩ : ∃ j, t - 7 = j := ⟨_, rfl⟩
          obtain ⟨j16, hj16⟩ : ∃ j, t - 16 = j := ⟨_, rfl⟩
          rw [hj15] at l15 e15
          rw [hj2] at l2 e2
          rw [hj7] at l7 e7
          rw [hj16] at l16 e16
          have n15 : j15 < t := by omega
          have n2 : j2 < t := by omega
          have n7 : j7 < t := by omega
          have n16 : j16 < t := by omega
          have HW := Lib.hid hw
          have HS2 := Lib.hid S
          clear hw hx15 hx2 hx7 hx16 hj15 hj2 hj7 hj16 S
          go_wp2_with fail
          go_region
          go_wp2_with fail
          refine (rot_any _ _ 7 (by decide) (by decide) (by kernel_rfl) _).mono ?_
          rintro e wa ⟨rfl, rfl⟩
          go_wp2_with fail
          refine (rot_any _ _ 18 (by decide) (by decide) (by kernel_rfl) _).mono ?_
          rintro e wa ⟨rfl, rfl⟩
          go_wp2_with fail
          refine (rot_any _ _ 17 (by decide) (by decide) (by kernel_rfl) _).mono ?_
          rintro e wa ⟨rfl, rfl⟩
          go_wp2_with fail
          refine (rot_any _ _ 19 (by decide) (by decide) (by kernel_rfl) _).mono ?_
          rintro e wa ⟨rfl, rfl⟩
          go_wp2_with fail
          go_region
          go_wp2_with fail
          rw [next_bits x2 x7 x15 x16, ← HW.out]
          refine ⟨⟨t + 1, by omega, by omega, by go_num, ((HS2.out.drew).step hlt (by rw [if_neg (by omega)])).drew⟩, by simp [intOf]; omega⟩
        · obtain rfl : t = 64 := by omega
          have o1 := S.out
          rw [upW_full (sched_len p 64)] at o1
          have O1 := Lib.hid o1
          have HS2 := Lib.hid S
          clear o1 S
          go_wp2_with (first | (refine wpList_load_ro rfl (.tmp 3) rfl rfl row54 O1.out (by rw [u32s_len, sched_len]) ?_) | (refine wpList_store_ro rfl (.tmp 2) (.tmp 88) rfl rfl rfl row54 HS2.out.res (by simp [u32s]) (by rw [u32s_len, sched_len]) (u32s_one _) ?_; intro w' h1 h2; have H1 := Lib.hid h1; have H2 := Lib.hid h2; clear h1 h2))
          exact bodyPost_ret (results_ro Tryz.results114 _ rfl row54 H1.out (by rw [u32s_len, sched_len])) rfl ⟨rfl, HS2.out.bel.grown H2.out HS2.out.bel.size (fun q e => by cases e; omega)⟩
end Go.Proofs.YtjcphpmlekfhdaaGreatDoor

/- A state as its cells, and what parts of a text are pieces. No condition. -/
namespace Go.Proofs.YtjcphpmlekfhdaaGreatDoor
open Go.RowKit

/-! Splices. -/
theorem splice_mid {α : Type} {A B C D : List α} {k : Nat} (hk : A.length = k) (h : D.length = B.length) : splice (A ++ (B ++ C)) k D = A ++ (D ++ C) := by
  subst hk
  unfold splice
  rw [h, List.take_left, ← List.drop_drop, List.drop_left, List.drop_left]
theorem splice_in {α : Type} {A B C D : List α} {j k : Nat} (hk : A.length = j) (h : k + D.length ≤ B.length) : splice (A ++ (B ++ C)) (j + k) D = A ++ (splice B k D ++ C) := by
  subst hk
  unfold splice
  rw [List.take_length_add_append, List.take_append_of_le_length (by omega), Nat.add_assoc, ← List.drop_drop, List.drop_left, List.drop_append_of_le_length (by omega)]
  simp
theorem vals_splice (P M : List Nat) (k : Nat) : vals (splice P k M) = splice (vals P) k (vals M) := by simp [splice, vals, List.map_take, List.map_drop]
theorem splice_tail {α : Type} (A Z D : List α) (h : D.length ≤ Z.length) : splice (A ++ Z) A.length D = A ++ (D ++ Z.drop D.length) := by
  have _ := h
  unfold splice
  rw [List.take_left, ← List.drop_drop, List.drop_left]

/-! Parts of a text. -/
def rest (L : List Nat) : List Nat := L.drop (64 * (L.length / 64))
def partL (L : List Nat) : List Nat := rest L ++ List.replicate (64 - L.length % 64) 0
theorem rest_len (L : List Nat) : (rest L).length = L.length % 64 := by unfold rest; rw [List.length_drop]; omega
theorem partL_len (L : List Nat) : (partL L).length = 64 := by unfold partL; rw [List.length_append, rest_len, List.length_replicate]; omega
theorem allB_zeros (n : Nat) : AllB (List.replicate n 0) := fun x hx => by rw [List.eq_of_mem_replicate hx]; decide
theorem partL_byt {L : List Nat} (h : AllB L) : AllB (partL L) := AllB.app (fun x hx => h x (List.mem_of_mem_drop hx)) (allB_zeros _)
theorem part_nil : partL [] = List.replicate 64 0 := rfl
theorem pieces_pre (X Y : List Nat) : ∀ n, 64 * n ≤ X.length → pieces (X ++ Y) n = pieces X n
  | 0, _ => rfl
  | n + 1, h => by
    rw [pieces, pieces, pieces_pre X Y n (by omega), List.drop_append_of_le_length (by omega), List.take_append_of_le_length (by rw [List.length_drop]; omega)]
theorem comp_len (h p : List Nat) : (comp h p).length = 8 := rfl
theorem pieces_len (L : List Nat) : ∀ n, (pieces L n).length = 8
  | 0 => rfl
  | n + 1 => by rw [pieces, comp_len]
theorem part_add (X Y : List Nat) (h : X.length % 64 + Y.length < 64) : partL (X ++ Y) = splice (partL X) (X.length % 64) Y ∧ (X ++ Y).length / 64 = X.length / 64 := by
  have e : (X ++ Y).length / 64 = X.length / 64 := by rw [List.length_append]; omega
  refine ⟨?_, e⟩
  have h1 : rest (X ++ Y) = rest X ++ Y := by unfold rest; rw [e, List.drop_append_of_le_length (by omega)]
  unfold partL
  rw [h1, ← rest_len X, splice_tail _ _ _ (by rw [List.length_replicate, rest_len]; omega), List.drop_replicate, List.append_assoc, List.length_append, rest_len]
  congr 3
  omega
theorem part_full (X Y : List Nat) (h : X.length % 64 + Y.length = 64) : splice (partL X) (X.length % 64) Y = rest X ++ Y := by
  unfold partL
  rw [← rest_len X, splice_tail _ _ _ (by rw [List.length_replicate, rest_len]; omega), List.drop_replicate, rest_len, show 64 - X.length % 64 - Y.length = 0 by omega]
  simp
theorem piece_full (X Y : List Nat) (h : X.length % 64 + Y.length = 64) : pieces (X ++ Y) (X.length / 64 + 1) = comp (pieces X (X.length / 64)) (rest X ++ Y) := by
  rw [pieces, pieces_pre X Y _ (by omega), List.drop_append_of_le_length (by omega)]
  congr 1
  show (rest X ++ Y).take 64 = _
  rw [List.take_of_length_le (by rw [List.length_append, rest_len]; omega)]
theorem full_len (X Y : List Nat) (h : X.length % 64 + Y.length = 64) : (X ++ Y).length / 64 = X.length / 64 + 1 ∧ (X ++ Y).length % 64 = 0 ∧ partL (X ++ Y) = List.replicate 64 0 := by
  have e : (X ++ Y).length = 64 * (X.length / 64 + 1) := by rw [List.length_append]; omega
  refine ⟨by omega, by omega, ?_⟩
  have h1 : rest (X ++ Y) = [] := List.eq_nil_of_length_eq_zero (by rw [rest_len]; omega)
  unfold partL
  rw [h1, show 64 - (X ++ Y).length % 64 = 64 by omega]
  rfl
/-! What a text's end is. -/
theorem bits8_len (n : Nat) : (bits8 n).length = 8 := by simp [bits8]
def endA (L : List Nat) : List Nat := rest L ++ 128 :: List.replicate (55 - L.length % 64) 0
def endB (L : List Nat) : List Nat := rest L ++ 128 :: List.replicate (63 - L.length % 64) 0
theorem sha_short (L : List Nat) (h : L.length % 64 < 56) : shaS L = bytesS (comp (pieces L (L.length / 64)) (endA L ++ bits8 L.length)) := by
  have g : gapN L.length = 55 - L.length % 64 := by unfold gapN; omega
  have e : text L = L ++ (128 :: List.replicate (55 - L.length % 64) 0 ++ bits8 L.length) := by unfold text; rw [g, List.append_assoc]
  have hl : L.length % 64 + (128 :: List.replicate (55 - L.length % 64) 0 ++ bits8 L.length).length = 64 := by
    rw [List.length_append, bits8_len, List.length_cons, List.length_replicate]; omega
  unfold shaS
  rw [e, (full_len L _ hl).1, piece_full L _ hl]
  unfold endA
  rw [List.append_assoc]
theorem sha_long (L : List Nat) (h : 56 ≤ L.length % 64) : shaS L = bytesS (comp (comp (pieces L (L.length / 64)) (endB L)) (List.replicate 56 0 ++ bits8 L.length)) := by
  have g : gapN L.length = (63 - L.length % 64) + 56 := by unfold gapN; omega
  have e : text L = (L ++ (128 :: List.replicate (63 - L.length % 64) 0)) ++ (List.replicate 56 0 ++ bits8 L.length) := by
    unfold text; rw [g, ← List.replicate_append_replicate]; simp
  have hl : L.length % 64 + (128 :: List.replicate (63 - L.length % 64) 0).length = 64 := by
    rw [List.length_cons, List.length_replicate]; omega
  obtain ⟨f1, f2, f3⟩ := full_len L _ hl
  have hl2 : (L ++ (128 :: List.replicate (63 - L.length % 64) 0)).length % 64 + (List.replicate 56 0 ++ bits8 L.length).length = 64 := by
    rw [f2, List.length_append, bits8_len, List.length_replicate]
  have r0 : rest (L ++ (128 :: List.replicate (63 - L.length % 64) 0)) = [] := List.eq_nil_of_length_eq_zero (by rw [rest_len, f2])
  unfold shaS
  rw [e, (full_len _ _ hl2).1, piece_full _ _ hl2, r0, f1, piece_full L _ hl]
  rfl

/-! A state in memory. -/
def stV (W P : List Nat) (c : Nat) : List Value := u32s W ++ (vals P ++ [.int .u64 (c : Int)])
theorem stV_len {W P : List Nat} {c : Nat} (hW : W.length = 8) (hP : P.length = 64) : (stV W P c).length = 73 := by
  unfold stV; rw [List.length_append, List.length_append, u32s_len, vals_length, hW, hP]; rfl
theorem stV_one (W P : List Nat) (c : Nat) : ∀ u ∈ stV W P c, u.oneCell' = true := by
  intro u hu
  unfold stV at hu
  rcases List.mem_append.1 hu with h | h
  · exact u32s_one _ _ h
  rcases List.mem_append.1 h with h | h
  · exact vals_one _ _ h
  · rw [List.mem_singleton] at h; subst h; rfl
theorem stV_words {W W' P : List Nat} {c : Nat} (h : W'.length = W.length) : splice (stV W P c) 0 (u32s W') = stV W' P c := by
  unfold stV
  exact splice_mid (A := []) rfl (by rw [u32s_len, u32s_len, h])
theorem stV_part {W P P' : List Nat} {c : Nat} (hW : W.length = 8) (h : P'.length = P.length) : splice (stV W P c) 8 (vals P') = stV W P' c := by
  unfold stV
  exact splice_mid (by rw [u32s_len, hW]) (by rw [vals_length, vals_length, h])
theorem stV_in {W P M : List Nat} {c k : Nat} (hW : W.length = 8) (h : k + M.length ≤ P.length) : splice (stV W P c) (8 + k) (vals M) = stV W (splice P k M) c := by
  unfold stV
  rw [vals_splice]
  exact splice_in (by rw [u32s_len, hW]) (by rw [vals_length, vals_length]; exact h)
theorem stV_count {W P : List Nat} {c d : Nat} (hW : W.length = 8) (hP : P.length = 64) : (stV W P c).set 72 (.int .u64 (d : Int)) = stV W P d := by
  unfold stV
  rw [List.set_append_right _ _ (by rw [u32s_len]; omega), List.set_append_right _ _ (by rw [u32s_len, vals_length]; omega), u32s_len, vals_length, hW, hP]
  rfl
section
variable {w : World} {b c : Nat} {T : TypeId} {W P : List Nat}
theorem Ro.mid {A B C : List Value} {k : Nat} (h : Ro w b T (A ++ (B ++ C))) (hk : A.length = k) : w.rangeAt b k B := by
  subst hk
  intro j v hv
  have hj := (List.getElem?_eq_some_iff.1 hv).1
  exact h.cell (by rw [List.getElem?_append_right (Nat.le_add_right _ _), Nat.add_sub_cancel_left, List.getElem?_append_left hj]; exact hv)
theorem Ro.stW (h : Ro w b T (stV W P c)) : w.rangeAt b 0 (u32s W) := Ro.mid (A := []) h rfl
theorem Ro.stP (h : Ro w b T (stV W P c)) (hW : W.length = 8) : w.rangeAt b 8 (vals P) := Ro.mid h (by rw [u32s_len, hW])
theorem Ro.stC (h : Ro w b T (stV W P c)) (hW : W.length = 8) (hP : P.length = 64) : w.cell? ⟨b, 72, none⟩ = some (.int .u64 (c : Int)) := h.cell (by
  unfold stV
  rw [List.getElem?_append_right (by rw [u32s_len]; omega), List.getElem?_append_right (by rw [u32s_len, vals_length]; omega), u32s_len, vals_length, hW, hP]
  rfl)
end
section
variable {w : World} {ops : Array Oper} {rest : List Oper} {o : Oper} {a : Act} {Q : Exit → Act → World → Prop} {K : Act → World → Prop} {T S : TypeId} {n b k : Nat} {vs zs : List Value}
theorem wpList_load_part (hgd : o.guard = none) (x : Operand) (ho : o.op = .load T x) (hx : a.eval x = .pointer (some ⟨b, k, none⟩)) (hT : IsRow T n) (hr : w.rangeAt b k vs) (hl : vs.length = n)
    (h : wpList Tryz.prog ops Q rest (a.put o.dst (.agg vs.toArray)) w) : wpList Tryz.prog ops Q (o :: rest) a w := by
  obtain ⟨⟨f, h1⟩ | ⟨j, e, h1⟩, h3⟩ := hT
  · exact wpList_load_mid hgd T x ho b k hx vs _ hr h1 rfl (by rw [h3]; simp [hl]) h
  · exact wpList_load_mid hgd T x ho b k hx vs _ hr h1 rfl (by rw [h3]; simp [hl]) h
theorem wpList_store_part (hgd : o.guard = none) (x y : Operand) (ho : o.op = .store T x y) (hx : a.eval x = .pointer (some ⟨b, k, none⟩)) (hy : a.eval y = .agg vs.toArray) (hT : IsRow T n) (hr : Ro w b S zs) (hz : k + n ≤ zs.length) (hl : vs.length = n) (h1 : ∀ u ∈ vs, u.oneCell' = true)
    (h : ∀ w', Ro w' b S (splice zs k vs) → w.grownBy w' (some b) → wpList Tryz.prog ops Q rest (a.put o.dst undef) w') : wpList Tryz.prog ops Q (o :: rest) a w := by
  refine wpList_plain hgd fun K hK => ?_
  have e := hK _ _ (h _ (setRow_heap w b _ (zs.take k ++ (vs ++ zs.drop (k + vs.length))).toArray _ _ hr) (grownBy_setRow w b (zs.take k ++ (vs ++ zs.drop (k + vs.length))).toArray))
  have hst := run_storeCells_at (P := Tryz.prog) b k S vs 0 zs.toArray w hr (by simp; omega) h1
  have hs : (storeVar T ⟨b, k, none⟩ (.agg vs.toArray)).run Tryz.prog w = .ok () (w.setRow b (zs.take k ++ (vs ++ zs.drop (k + vs.length))).toArray) := by
    have hi := hT.info
    cases hq : Tryz.prog.info? T with
    | none => simp [hq] at hi
    | some i =>
      have hs : i.size = vs.length := by simp [hq] at hi; omega
      simp [storeVar, sizeOf, typeInfo, hq, Value.cells, hs, hst]
  unfold Oper.wp execOp
  simp only [ho, hx, hy, Instr.storeAt, Instr.sureAddr, Sem.run_bind, Sem.run_pure, Result.andThen_ok, hs]
  exact e
end
end Go.Proofs.YtjcphpmlekfhdaaGreatDoor
