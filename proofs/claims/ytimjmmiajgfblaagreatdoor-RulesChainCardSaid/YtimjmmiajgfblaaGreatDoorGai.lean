/- header.numbers: where the numbers of a header stand, in its bytes and in memory. No condition. -/
import Derived.Test.YtimjmmiajgfblaaGreatDoorGab
import Derived.Test.YtimjmmiajgfblaaGreatDoorGae
import Derived.StillTailTactics
import Derived.Outline

namespace Go.Proofs.YtimjmmiajgfblaaGreatDoor
open Go.RowKit

section
variable {w : World} {ops : Array Oper} {rest : List Oper} {o : Oper} {a : Act} {Q : Exit → Act → World → Prop}
theorem wpList_copy_ro (hgd : o.guard = none) (d s : Operand) (ho : o.op = .call { callee := .builtin .copy, args := #[d, s], argTypes := #[39, 39] }) {b k m n c1 c2 : Nat} {A : Option Addr} {S : TypeId} {zs : List Value} {M : List Nat} {q : Nat}
    (hd : a.eval d = .slice (some ⟨b, k, none⟩) m c1) (hs : a.eval s = .slice A n c2) (hr : Ro w b S zs) (hsrc : Bs w A n M) (hfit : k + m ≤ zs.length) (hq : min n m = q)
    (h : ∀ w', Ro w' b S (splice zs k (vals (M.take q))) → w.grownBy w' (some b) → wpList Tryz.prog ops Q rest (a.put o.dst (.int .i64 (q : Nat))) w') : wpList Tryz.prog ops Q (o :: rest) a w := by
  subst hq
  obtain ⟨i0, hi, _, hz1, _⟩ := info_parts Tryz.infoByte
  have hsz : (Tryz.prog.info? 5).map (·.size) = some 1 := by rw [hi]; simp [hz1]
  have hl := hsrc.len
  have hc : (vals (M.take (min n m))).length = min n m := by rw [vals_length, List.length_take]; omega
  by_cases h0 : min n m = 0
  · refine wpList_copy_nothing hgd d s _ _ ho 5 Tryz.underlying39 hsz _ A m c1 n c2 hd hs h0 ?_
    have := h w (by rw [h0]; simpa [splice, vals] using hr) (World.grownBy.refl _ _)
    rwa [h0] at this
  · obtain ⟨ad, rfl, _, hcel⟩ := hsrc.cel (by omega)
    refine wpList_copy_own hgd d s _ _ ho 5 Tryz.underlying39 hsz b k m c1 ad n c2 hd hs zs.toArray S hr (vals (M.take (min n m))) (by rw [hc]) (fun j v hv => ?_) (by rw [hc]; simp; omega) (vals_one _) ?_
    · obtain ⟨hj, rfl⟩ := vals_get? hv
      rw [List.length_take] at hj
      rw [hcel j (by omega)]
      have hj2 : j < min n m := by omega
      have : nth (M.take (min n m)) j = nth M j := by simp only [nth, List.getD]; rw [List.getElem?_take, if_pos hj2]
      rw [this]
    · rw [hc]
      have e := setRow_heap w b _ (splice zs k (vals (M.take (min n m)))).toArray _ _ hr
      have h3 := h _ e (grownBy_setRow _ _ _)
      unfold splice at h3
      rw [hc] at h3
      exact h3
end

/-- The numbers of the header in block b. -/
def numV (b : Nat) : List Value := [.int .i64 0, .pointer (some ⟨b, 0, none⟩), .int .i64 68, .pointer (some ⟨b, 65, none⟩), .int .i64 72, .pointer (some ⟨b, 66, none⟩), .int .i64 76, .pointer (some ⟨b, 67, none⟩)]
theorem rowNum : IsRow 110 8 := ⟨.inr ⟨_, _, Tryz.underlying110⟩, by kernel_rfl⟩
theorem zeroNum (w : World) : (zeroValue 110).run Tryz.prog w = .ok (.agg #[.int .i64 0, .pointer none, .int .i64 0, .pointer none, .int .i64 0, .pointer none, .int .i64 0, .pointer none]) w := by kernel_rfl

set_option maxRecDepth 100000 in
set_option maxHeartbeats 1000000 in
theorem numbers_any (b : Nat) (w : World) : Calls Tryz.prog 91 #[.pointer (some ⟨b, 0, none⟩)] w fun e w' => e = .returned (.agg (numV b).toArray) ∧ Below w.heap.size w w' := by
  have z0 := zeroNum
  have B1 := Lib.hid ((Below.refl w.heap.size w).alloc (Nat.le_refl _) (.cells #[.int .i64 0, .pointer none, .int .i64 0, .pointer none, .int .i64 0, .pointer none, .int .i64 0, .pointer none] 110))
  have R1 := Lib.hid (Ro.new w 110 [.int .i64 0, .pointer none, .int .i64 0, .pointer none, .int .i64 0, .pointer none, .int .i64 0, .pointer none])
  go_enter Tryz.func91, Tryz.ntmps91
  go_wp2_with fail
  go_still_tail 17, (by kernel_rfl)
  refine wpList_store_ro rfl (.tmp 2) (.tmp 19) rfl rfl rfl rowNum (vs := numV b) (by first | exact R1.out | exact R1.out.later (Below.refl _ _).drew) rfl rfl (by intro u hu; simp [numV] at hu; rcases hu with h | h | h | h | h | h | h | h <;> (subst h; rfl)) ?_
  intro w4 R4 g4
  go_wp2_with fail
  exact bodyPost_ret (results_ro Tryz.results91 _ rfl rowNum R4 rfl) rfl ⟨rfl, (B1.out.drew).grown g4 (by simp) (fun q e => by injection e; omega)⟩
end Go.Proofs.YtimjmmiajgfblaaGreatDoor

/- header.Put: the bytes of a header. No condition. -/
namespace Go.Proofs.YtimjmmiajgfblaaGreatDoor
open Go.RowKit

/-- Where the k-th number stands in the bytes, where in memory, and which it is. -/
def atN (k : Nat) : Nat := [0, 68, 72, 76].getD k 0
def poN (k : Nat) : Nat := [0, 65, 66, 67].getD k 0
def noN (h : Hd) (k : Nat) : Nat := [h.v, h.t, h.b, h.n].getD k 0
theorem four {k : Nat} (h : k < 4) : k = 0 ∨ k = 1 ∨ k = 2 ∨ k = 3 := by omega
theorem index_num (b : Nat) {k : Nat} (hk : k < 4) (w : World) : (Instr.index 110 (.agg (numV b).toArray) (.int .i64 (k : Nat))).run Tryz.prog w = .ok (.agg #[.int .i64 (atN k : Nat), .pointer (some ⟨b, poN k, none⟩)]) w := by
  rcases four hk with rfl | rfl | rfl | rfl <;> kernel_rfl
theorem hdV_no {h : Hd} (o : h.Ok) {k : Nat} (hk : k < 4) : (hdV h)[poN k]? = some (.int .u32 (noN h k : Nat)) := by
  have p := o.p
  have r := o.r
  rcases four hk with rfl | rfl | rfl | rfl
  · rfl
  all_goals
    unfold hdV poN noN
    simp only [List.getD_cons_succ, List.getD_cons_zero, List.getElem?_cons_succ]
    rw [List.getElem?_append_right (by simp [vals_length, p]), List.getElem?_append_right (by simp [vals_length, p, r])]
    simp [vals_length, p, r, u32v]
theorem noN_lt {h : Hd} (o : h.Ok) {k : Nat} (hk : k < 4) : noN h k < 4294967296 := by
  rcases four hk with rfl | rfl | rfl | rfl
  · exact o.v
  · exact o.t
  · exact o.b
  · exact o.n
def setJ (L : List Nat) (a x : Nat) : Nat → List Nat
  | 0 => L
  | j + 1 => (setJ L a x j).set (a + j) (x / 256 ^ j % 256)
theorem setJ_len (L : List Nat) (a x : Nat) : ∀ j, (setJ L a x j).length = L.length
  | 0 => rfl
  | j + 1 => by rw [setJ, List.length_set, setJ_len L a x j]
/-- The bytes once k numbers have been put. -/
def putL (h : Hd) : Nat → List Nat
  | 0 => List.replicate 80 0
  | k + 1 => setJ (putL h k) (atN k) (noN h k) 4
theorem putL_len (h : Hd) : ∀ k, (putL h k).length = 80
  | 0 => rfl
  | k + 1 => by rw [putL, setJ_len, putL_len h k]

theorem le4_pow (x : Nat) : le4 x = [x / 256 ^ 0 % 256, x / 256 ^ 1 % 256, x / 256 ^ 2 % 256, x / 256 ^ 3 % 256] := by simp [le4]
theorem sets_lit (a0 a1 a2 a3 c0 c1 c2 c3 d0 d1 d2 d3 e0 e1 e2 e3 : Nat) : ((((((((((((((((List.replicate 80 0).set 0 a0).set 1 a1).set 2 a2).set 3 a3).set 68 c0).set 69 c1).set 70 c2).set 71 c3).set 72 d0).set 73 d1).set 74 d2).set 75 d3).set 76 e0).set 77 e1).set 78 e2).set 79 e3 = [a0, a1, a2, a3] ++ (List.replicate 32 0 ++ (List.replicate 32 0 ++ ([c0, c1, c2, c3] ++ ([d0, d1, d2, d3] ++ [e0, e1, e2, e3])))) := by rfl
theorem putL_four (h : Hd) : putL h 4 = le4 h.v ++ (List.replicate 32 0 ++ (List.replicate 32 0 ++ (le4 h.t ++ (le4 h.b ++ le4 h.n)))) := by
  rw [le4_pow, le4_pow, le4_pow, le4_pow, ← sets_lit]
  simp only [putL, setJ, atN, noN, List.getD_cons_zero, List.getD_cons_succ, Nat.add_zero, Nat.reduceAdd]
theorem splice_two {A B C Z P R : List Nat} (hA : A.length = 4) (hB : P.length = B.length) (hC : R.length = C.length) (h32 : P.length = 32) : splice (splice (A ++ (B ++ (C ++ Z))) 4 P) 36 R = A ++ (P ++ (R ++ Z)) := by
  rw [splice_mid hA hB, ← List.append_assoc, splice_mid (by rw [List.length_append]; omega) hC, List.append_assoc]
theorem putL_done {h : Hd} (o : h.Ok) : splice (splice (vals (putL h 4)) 4 (vals h.p)) 36 (vals h.r) = vals (hdB h) := by
  rw [putL_four, ← vals_splice, ← vals_splice, splice_two (le4_len h.v) (by rw [o.p, List.length_replicate]) (by rw [o.r, List.length_replicate]) o.p]
  rfl
/-- A part of a block as a slice. -/
theorem Ro.bsAt {w : World} {b k : Nat} {T : TypeId} {X Z : List Value} {M : List Nat} (R : Ro w b T (X ++ (vals M ++ Z))) (hk : X.length = k) (hM : AllB M) : Bs w (some ⟨b, k, none⟩) M.length M := by
  refine ⟨rfl, hM, fun _ => ⟨_, rfl, R.lt, fun j hj => ?_⟩⟩
  have e : (⟨b, k, none⟩ : Addr).add j = ⟨b, k + j, none⟩ := by unfold Addr.add; split <;> simp_all
  rw [e]
  exact R.cell (by rw [← hk, List.getElem?_append_right (Nat.le_add_right _ _), Nat.add_sub_cancel_left, List.getElem?_append_left (by rw [vals_length]; exact hj)]; exact vals_get M j hj)
theorem Ro.prev {w : World} {b : Nat} {T : TypeId} {h : Hd} (o : h.Ok) (R : Ro w b T (hdV h)) : Bs w (some ⟨b, 1, none⟩) 32 h.p := by
  have := Ro.bsAt (X := [u32v h.v]) (M := h.p) (Z := vals h.r ++ [u32v h.t, u32v h.b, u32v h.n]) (k := 1) R rfl o.pb
  rwa [o.p] at this
theorem Ro.root {w : World} {b : Nat} {T : TypeId} {h : Hd} (o : h.Ok) (R : Ro w b T (hdV h)) : Bs w (some ⟨b, 33, none⟩) 32 h.r := by
  have := Ro.bsAt (w := w) (b := b) (T := T) (X := u32v h.v :: vals h.p) (M := h.r) (Z := [u32v h.t, u32v h.b, u32v h.n]) (k := 33) R (by simp [vals_length, o.p]) o.rb
  rwa [o.r] at this

structure PutAt (w : World) (h : Hd) (k : Nat) (wr : World) : Prop where
  hd : Ro wr w.heap.size 27 (hdV h)
  row : Ro wr (w.heap.size + 1) 5 (vals (putL h k))
  bel : Below w.heap.size w wr

structure PIn (w : World) (h : Hd) (k at_ po x j xb : Nat) (wr : World) : Prop where
  hd : Ro wr w.heap.size 27 (hdV h)
  row : Ro wr (w.heap.size + 1) 5 (vals (setJ (putL h k) at_ x j))
  xs : Ro wr xb 109 [.int .i64 (at_ : Nat), .pointer (some ⟨w.heap.size, po, none⟩)]
  bel : Below w.heap.size w wr
  new : w.heap.size + 2 ≤ xb

theorem PIn.next {w : World} {h : Hd} {k at_ po x j xb : Nat} {wr : World} (I : PIn w h k at_ po x j xb wr) {q : Nat} (hq : at_ + j = q) {v : Int} (hv : v = ((x / 256 ^ j % 256 : Nat) : Int)) : PIn w h k at_ po x (j + 1) xb ((wr.setCell ⟨w.heap.size + 1, q, none⟩ (.int .u8 v)).drew) := by
  subst hq hv
  have b : Below wr.heap.size (wr.setCell ⟨w.heap.size + 1, at_ + j, none⟩ (.int .u8 ((x / 256 ^ j % 256 : Nat) : Int))) ((wr.setCell ⟨w.heap.size + 1, at_ + j, none⟩ (.int .u8 ((x / 256 ^ j % 256 : Nat) : Int))).drew) := (Below.refl _ _).drew
  have e : (wr.setCell ⟨w.heap.size + 1, at_ + j, none⟩ (.int .u8 ((x / 256 ^ j % 256 : Nat) : Int))).heap.size = wr.heap.size := by simp
  refine ⟨(I.hd.other (c := w.heap.size + 1) (by omega) _).later (by rw [e]; exact b), (I.row.set8 _ _).later (by rw [e]; exact b), (I.xs.other (c := w.heap.size + 1) (by have := I.new; omega) _).later (by rw [e]; exact b), ?_, I.new⟩
  exact (I.bel.setCell (by simp) _).drew

theorem make80 (w : World) : (Instr.makeSlice 39 (.int .i64 80) (.int .i64 80)).run Tryz.prog w = .ok (.slice (some ⟨w.heap.size, 0, none⟩) 80 80) (w.alloc (.cells (vals (List.replicate 80 0)).toArray 5)) := by kernel_rfl

set_option maxRecDepth 100000 in
set_option maxHeartbeats 4000000 in
theorem put_any {h : Hd} (o : h.Ok) (w : World) : Calls Tryz.prog 68 #[.agg (hdV h).toArray] w fun e w' => ∃ b, e = .returned (.slice (some ⟨b, 0, none⟩) 80 80) ∧ w.heap.size ≤ b ∧ Ro w' b 5 (vals (hdB h)) ∧ Below w.heap.size w w' := by
  have z1 := (Below.refl w.heap.size w).alloc (Nat.le_refl _) (.cells (hdV h).toArray 27)
  have HB := Lib.hid z1
  have HH := Lib.hid (Ro.new w 27 (hdV h))
  clear z1
  go_enter Tryz.func68, Tryz.ntmps68
  have hmk := make80
  go_wp2_with fail
  clear hmk
  have z2 := HB.out.alloc (Nat.le_trans (Nat.le_refl _) HB.out.size) (.cells (vals (List.replicate 80 0)).toArray 5)
  have R1 := Ro.new (w.alloc (.cells (hdV h).toArray 27)) 5 (vals (List.replicate 80 0))
  rw [World.size_alloc] at R1
  have P0 : Hid (PutAt w h 0 ((w.alloc (.cells (hdV h).toArray 27)).alloc (.cells (vals (List.replicate 80 0)).toArray 5))) := Lib.hid ⟨HH.out.alloc _, R1, z2⟩
  clear z2 R1 HB HH
  refine (numbers_any _ _).mono ?_
  rintro e w2 ⟨rfl, hb⟩
  have P2 : Hid (PutAt w h 0 w2) := Lib.hid ⟨P0.out.hd.later hb, P0.out.row.later hb, P0.out.bel.trans (hb.mono P0.out.bel.size)⟩
  clear hb P0
  obtain ⟨NV, hNV⟩ : ∃ N, (numV w.heap.size).toArray = N := ⟨_, rfl⟩
  rw [hNV]
  have IX : Hid (∀ k, k < 4 → ∀ w1, (Instr.index 110 (.agg NV) (.int .i64 (k : Nat))).run Tryz.prog w1 = .ok (.agg #[.int .i64 (atN k : Nat), .pointer (some ⟨w.heap.size, poN k, none⟩)]) w1) := Lib.hid (fun k hk w1 => by rw [← hNV]; exact index_num _ hk w1)
  clear hNV
  go_wp2_with fail
  go_loopw [9] (fun i wr => ∃ k : Nat, k ≤ 4 ∧ i = .int .i64 (k : Nat) ∧ PutAt w h k wr) (fun i _ => 4 - (intOf i).toNat)
  case atStart => exact ⟨0, Nat.zero_le _, rfl, P2.out⟩
  case round =>
    clear P2
    obtain ⟨k, hk, rfl, P⟩ := hrel
    have HP := Lib.hid P
    clear P
    by_cases hlt : k < 4
    · have ix := IX.out k hlt
      have hl := noN_lt o hlt
      have c0 := HP.out.hd.cell (hdV_no o hlt)
      obtain ⟨x, hx⟩ : ∃ x, noN h k = x := ⟨_, rfl⟩
      obtain ⟨at_, hat⟩ : ∃ x, atN k = x := ⟨_, rfl⟩
      obtain ⟨po, hpo⟩ : ∃ x, poN k = x := ⟨_, rfl⟩
      rw [hx] at hl c0
      rw [hat, hpo] at ix
      rw [hpo] at c0
      have HX := Lib.hid hx
      have HA := Lib.hid hat
      have a76 : at_ ≤ 76 := by subst hat; rcases four hlt with rfl | rfl | rfl | rfl <;> decide
      have HP0 := Lib.hid hpo
      clear hx hat hpo
      go_wp2_with fail
      have I0 : Hid (PIn w h k at_ po x 0 wr.heap.size (wr.alloc (.cells #[.int .i64 (at_ : Nat), .pointer (some ⟨w.heap.size, po, none⟩)] 109))) := Lib.hid ⟨HP.out.hd.alloc _, HP.out.row.alloc _, Ro.new _ _ _, HP.out.bel.alloc HP.out.bel.size _, by have := HP.out.row.lt; omega⟩
      clear c0
      obtain ⟨xb, hxb⟩ : ∃ b, b = wr.heap.size := ⟨_, rfl⟩
      rw [← hxb] at I0 ⊢
      go_loopw [12] (fun i wr => ∃ j : Nat, j ≤ 4 ∧ i = .int .i64 (j : Nat) ∧ PIn w h k at_ po x j xb wr) (fun i _ => 4 - (intOf i).toNat)
      case atStart => exact ⟨0, Nat.zero_le _, rfl, I0.out⟩
      case round =>
        clear I0 HP hxb
        obtain ⟨j, hj, rfl, I⟩ := hrel
        have HI := Lib.hid I
        clear I
        by_cases hlt2 : j < 4
        · have c0 := HI.out.hd.cell (hdV_no o hlt)
          rw [HX.out] at c0
          have p0 := HP0.out
          rw [p0] at c0
          have c1 := HI.out.xs.cell (k := 0) rfl
          have c2 := HI.out.xs.cell (k := 1) rfl
          have c3 := HI.out.row.u8 (k := at_ + j) (by rw [setJ_len, putL_len]; omega)
          have f3 := HI.out.row.free (at_ + j)
          clear p0
          rcases four hlt2 with rfl | rfl | rfl | rfl
          · simp only [Nat.add_zero] at c3 f3
            go_wp2_with fail
            go_region
            go_wp2_with fail
            go_roundw
            case rel => exact ⟨1, by omega, by go_num, HI.out.next (by omega) (by omega)⟩
            case measure => simp [intOf]
          · go_wp2_with fail
            go_region
            go_wp2_with fail
            go_roundw
            case rel => exact ⟨2, by omega, by go_num, HI.out.next (by omega) (by omega)⟩
            case measure => simp [intOf]
          · go_wp2_with fail
            go_region
            go_wp2_with fail
            go_roundw
            case rel => exact ⟨3, by omega, by go_num, HI.out.next (by omega) (by omega)⟩
            case measure => simp [intOf]
          · go_wp2_with fail
            go_region
            go_wp2_with fail
            go_roundw
            case rel => exact ⟨4, by omega, by go_num, HI.out.next (by omega) (by omega)⟩
            case measure => simp [intOf]
        · obtain rfl : j = 4 := by omega
          go_wp2_with fail
          exact ⟨⟨k + 1, by omega, by go_num, HI.out.hd, by rw [putL, HX.out, HA.out]; exact HI.out.row, HI.out.bel⟩, by simp [intOf]; omega⟩
    · obtain rfl : k = 4 := by omega
      have HO := Lib.hid o
      clear o
      go_wp2_with fail
      go_still_tail 4, (by kernel_rfl)
      refine wpList_copy_ro rfl (.tmp 32) (.tmp 34) rfl (b := w.heap.size + 1) (k := 4) (m := 76) (n := 32) (c1 := 76) (c2 := 32) (A := some ⟨w.heap.size, 1, none⟩) (M := h.p) (q := 32) (S := 5) (zs := vals (putL h 4)) rfl rfl (HP.out.row.later (Below.refl _ _).drew) (Ro.prev HO.out (HP.out.hd.later (Below.refl _ _).drew)) (by rw [vals_length, putL_len]; decide) rfl ?_
      intro w4 R4 g4
      rw [List.take_of_length_le (by rw [HO.out.p]; exact Nat.le_refl _)] at R4
      have P4 : Hid (Ro w4 w.heap.size 27 (hdV h) ∧ Below w.heap.size w w4) := Lib.hid ⟨(HP.out.hd.later (Below.refl _ _).drew).far g4 (fun e => by injection e; omega), HP.out.bel.drew.grown g4 (Nat.le_trans HP.out.bel.size (Nat.le_refl _)) (fun q e => by injection e; omega)⟩
      have HR4 := Lib.hid R4
      clear HP R4 g4
      go_wp2_with fail
      go_still_tail 4, (by kernel_rfl)
      refine wpList_copy_ro rfl (.tmp 37) (.tmp 39) rfl (b := w.heap.size + 1) (k := 36) (m := 44) (n := 32) (c1 := 44) (c2 := 32) (A := some ⟨w.heap.size, 33, none⟩) (M := h.r) (q := 32) (S := 5) (zs := splice (vals (putL h 4)) 4 (vals h.p)) rfl rfl (HR4.out.later (Below.refl _ _).drew) (Ro.root HO.out (P4.out.1.later (Below.refl _ _).drew)) (by rw [← vals_splice, vals_length]; unfold splice; simp [putL_len, HO.out.p]) rfl ?_
      intro w5 R5 g5
      rw [List.take_of_length_le (by rw [HO.out.r]; exact Nat.le_refl _), putL_done HO.out] at R5
      have P5 := Lib.hid (P4.out.2.drew.grown g5 (Nat.le_trans P4.out.2.size (Nat.le_refl _)) (fun q e => by injection e; omega))
      have HR5 := Lib.hid R5
      clear P4 HR4 R5 g5
      go_wp2_with fail
      go_ret
      exact ⟨_, rfl, by omega, HR5.out, P5.out⟩
end Go.Proofs.YtimjmmiajgfblaaGreatDoor
