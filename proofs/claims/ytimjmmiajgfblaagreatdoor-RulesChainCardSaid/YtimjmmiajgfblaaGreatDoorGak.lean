/- The reference's sum of bytes. No condition but a bound on the length. -/
import Derived.Test.YtimjmmiajgfblaaGreatDoorGae
import Derived.Test.YtimjmmiajgfblaaGreatDoorRWords
import Derived.Test.YtimjmmiajgfblaaGreatDoorMix
import Derived.BigRegion
import Derived.Test.YtimjmmiajgfblaaGreatDoorGag

namespace Go.Proofs.YtimjmmiajgfblaaGreatDoor
open Go.RowKit

theorem Ws.row (w : World) (L : List Nat) : Ws (w.alloc (.cells (u32s L).toArray 22)) (some ⟨w.heap.size, 0, none⟩) L.length L := Ws.lit w L trivial
theorem Ro.ws {w : World} {b : Nat} {T : TypeId} {H : List Nat} (R : Ro w b T (u32s H)) : Ws w (some ⟨b, 0, none⟩) H.length H := by
  refine ⟨rfl, trivial, fun _ => ⟨_, rfl, R.lt, fun k hk => ?_⟩⟩
  have e : (⟨b, 0, none⟩ : Addr).add k = ⟨b, k, none⟩ := by unfold Addr.add; split <;> simp_all
  rw [e]
  exact R.u32 hk
theorem kTab_len : kTab.length = 64 := rfl

set_option maxRecDepth 100000 in
set_option maxHeartbeats 4000000 in
theorem k_any (w : World) : Calls Tryz.prog 95 #[] w fun e w' => e = .returned (.slice (some ⟨w.heap.size, 0, none⟩) 64 64) ∧ Ws w' (some ⟨w.heap.size, 0, none⟩) 64 kTab ∧ Below w.heap.size w w' := by
  have R1 := Lib.hid (Ro.new w 22 (u32s kTab))
  have B1 := Lib.hid ((Below.refl w.heap.size w).alloc (Nat.le_refl _) (.cells (u32s kTab).toArray 22))
  go_enter Tryz.func95, Tryz.ntmps95
  go_wp2_with fail
  go_ret
  exact ⟨rfl, R1.out.ws, B1.out⟩

/-- The words that a sum holds, and all else as it lay in w2 (but what is new). -/
structure RsA (w w2 : World) (H : List Nat) (wr : World) : Prop where
  h : Ro wr (w.heap.size + 1) 22 (u32s H)
  old : ∀ b, b < w2.heap.size → b ≠ w.heap.size + 1 → wr.heap[b]? = w2.heap[b]?
  size : w2.heap.size ≤ wr.heap.size
  bel : Below w.heap.size w wr
section
variable {w w2 : World} {H : List Nat} {wr w1 : World}
theorem RsA.later (N : RsA w w2 H wr) (b : Below wr.heap.size wr w1) : RsA w w2 H w1 :=
  ⟨N.h.later b, fun k hk hn => (b.block k (Nat.lt_of_lt_of_le hk N.size)).trans (N.old k hk hn), Nat.le_trans N.size b.size, N.bel.trans (b.mono N.bel.size)⟩
theorem RsA.set (N : RsA w w2 H wr) (k x : Nat) : RsA w w2 (H.set k x) (wr.setCell ⟨w.heap.size + 1, k, none⟩ (.int .u32 (x : Int))) :=
  ⟨N.h.set32 k x, fun j hj hn => (Below.heap_setCell _ _ _ _ hn).trans (N.old j hj hn), by simpa using N.size, N.bel.setCell (by simp) _⟩
theorem RsA.drew (N : RsA w w2 H wr) : RsA w w2 H wr.drew := N.later (Below.refl _ _).drew
theorem RsA.cell (N : RsA w w2 H wr) {a : Addr} (h1 : a.block < w2.heap.size) (h2 : a.block ≠ w.heap.size + 1) : wr.cell? a = w2.cell? a := by
  unfold World.cell?
  rw [N.old a.block h1 h2]
theorem RsA.bs (N : RsA w w2 H wr) {A : Option Addr} {n : Nat} {L : List Nat} (h : Bs w2 A n L) (hA : 0 < n → ∀ a, A = some a → a.block ≠ w.heap.size + 1) : Bs wr A n L :=
  ⟨h.len, h.byt, fun hn => by
    obtain ⟨a, e, hb, hc⟩ := h.cel hn
    exact ⟨a, e, Nat.lt_of_lt_of_le hb N.size, fun k hk => by rw [← hc k hk]; exact N.cell (by rw [add_block]; exact hb) (by rw [add_block]; exact hA hn a e)⟩⟩
theorem RsA.ws (N : RsA w w2 H wr) {A : Option Addr} {n : Nat} {L : List Nat} (h : Ws w2 A n L) (hA : 0 < n → ∀ a, A = some a → a.block ≠ w.heap.size + 1) : Ws wr A n L :=
  ⟨h.len, h.byt, fun hn => by
    obtain ⟨a, e, hb, hc⟩ := h.cel hn
    exact ⟨a, e, Nat.lt_of_lt_of_le hb N.size, fun k hk => by rw [← hc k hk]; exact N.cell (by rw [add_block]; exact hb) (by rw [add_block]; exact hA hn a e)⟩⟩
end
theorem Wn.made0 {w0 w : World} (b : Below w0.heap.size w0 w) : Wn w0 (.slice (some ⟨w.heap.size, 0, none⟩) 0 0) 0 [] (w.alloc (.cells #[] 22)) := Wn.made b #[] 0 (Nat.zero_le _) rfl
theorem one_eq2 (e f g h k x : Nat) : (((h : Int) + bits .xor .u32 (bits .xor .u32 ((rr e 6 : Nat) : Int) ((rr e 11 : Nat) : Int)) ((rr e 25 : Nat) : Int) + bits .xor .u32 (bits .and .u32 (e : Int) (f : Int)) (bits .and .u32 (bits .xor .u32 (if IntKind.u32.signed = true then (-1 : Int) else IntKind.u32.max) (e : Int)) (g : Int)) + (k : Int)) % 4294967296 + (x : Int)) % 4294967296 = ((oneS e f g h k x : Nat) : Int) := by
  rw [← one_eq]
  omega
def l8 (s : S8) : List Nat := [s.a, s.b, s.c, s.d, s.e, s.f, s.g, s.h]
def midH (H l : List Nat) (i : Nat) : List Nat := (List.range 8).map fun j => if j < i then ad (nth H j) (nth l j) else nth H j
theorem midH_len (H l : List Nat) (i : Nat) : (midH H l i).length = 8 := by simp [midH]
theorem midH_get (H l : List Nat) {i j : Nat} (hj : j < 8) : nth (midH H l i) j = if j < i then ad (nth H j) (nth l j) else nth H j := by
  simp [midH, nth, List.getD, hj]
theorem midH_zero {H : List Nat} (l : List Nat) (h : H.length = 8) : midH H l 0 = H := by
  refine nth_ext (by rw [midH_len, h]) fun k hk => ?_
  rw [midH_len] at hk
  rw [midH_get H l hk, if_neg (by omega)]
theorem midH_next (H l : List Nat) {i : Nat} (hi : i < 8) : (midH H l i).set i (ad (nth H i) (nth l i)) = midH H l (i + 1) := by
  refine nth_ext (by rw [List.length_set, midH_len, midH_len]) fun k hk => ?_
  rw [List.length_set, midH_len] at hk
  by_cases e : i = k
  · subst e
    rw [nth_set_same (by rw [midH_len]; exact hi), midH_get H l hk, if_pos (by omega)]
  · rw [nth_set_ne e, midH_get H l hk, midH_get H l hk]
    by_cases h : k < i
    · rw [if_pos h, if_pos (by omega)]
    · rw [if_neg h, if_neg (by omega)]
theorem midH_full (H p : List Nat) (s : S8) (hs : s = rnds (sched p 64) (s8 H) 64) : midH H (l8 s) 8 = comp H p := by
  unfold comp
  rw [← hs]
  obtain ⟨a, b, c, d, e, f, g, h⟩ := s
  rfl
theorem Ws.other {w : World} {A : Option Addr} {n k : Nat} {L : List Nat} (h : Ws w A n L) {b : Nat} (hb : ∀ a, A = some a → a.block ≠ b) (v : Value) : Ws (w.setCell ⟨b, k, none⟩ v) A n L :=
  ⟨h.len, h.byt, fun hn => by
    obtain ⟨a, e, hl, hc⟩ := h.cel hn
    refine ⟨a, e, by simpa using hl, fun j hj => ?_⟩
    rw [← hc j hj]
    unfold World.cell?
    rw [Below.heap_setCell _ _ _ _ (by rw [add_block]; exact hb a e)]⟩
structure RpA (w w2 : World) (H : List Nat) (g i : Nat) (wr : World) : Prop where
  q : RsA w w2 H wr
  r : Ro wr w.heap.size 25 (vals (List.replicate 32 0))
  o : Ro wr g 25 (vals (upW (byT H i) 32))
theorem RpA.step {w w2 : World} {H : List Nat} {g i x : Nat} {wr : World} (s : RpA w w2 H g i wr) (hg : w2.heap.size ≤ g) (hz : w.heap.size + 2 ≤ w2.heap.size) (hi : i < 32) (hx : x = byteAt H i) : RpA w w2 H g (i + 1) (wr.setCell ⟨g, i, none⟩ (.int .u8 (x : Int))) := by
  refine ⟨⟨s.q.h.other (by omega) _, fun b hb hn => ?_, by simpa using s.q.size, s.q.bel.setCell (by simp; omega) _⟩, s.r.other (by omega) _, ?_⟩
  · rw [← s.q.old b hb hn]
    exact Below.heap_setCell _ _ _ _ (by simp; omega)
  have h1 := s.o.set8 i x
  have h2 := upW_set (W := byT H i) (n := 32) x (by rw [byT_len]; exact hi)
  rw [byT_len] at h2
  rw [h2, hx, ← byT_next] at h1
  rw [hx]
  exact h1
theorem RpA.drew {w w2 : World} {H : List Nat} {g i : Nat} {wr : World} (s : RpA w w2 H g i wr) : RpA w w2 H g i wr.drew := ⟨s.q.drew, s.r.later (Below.refl _ _).drew, s.o.later (Below.refl _ _).drew⟩
theorem l8_s8 {H : List Nat} (h : H.length = 8) : l8 (s8 H) = H := by
  obtain ⟨a, b, c, d, e, f, g, i, rfl⟩ : ∃ a b c d e f g i, H = [a, b, c, d, e, f, g, i] := by
    match H, h with
    | [a, b, c, d, e, f, g, i], _ => exact ⟨a, b, c, d, e, f, g, i, rfl⟩
  rfl

set_option maxRecDepth 100000 in
set_option maxHeartbeats 8000000 in
theorem refSum_any {A : Option Addr} {n c : Nat} {L : List Nat} (w : World) (hn : n ≤ 274877906944) (hL : Bs w A n L) :
    Calls Tryz.prog 73 #[.slice A n c] w fun e w' => e = .returned (.agg (vals (shaS L)).toArray) ∧ Below w.heap.size w w' := by
  have B1 := ((Below.refl w.heap.size w).alloc (Nat.le_refl _) (.cells (vals (List.replicate 32 0)).toArray 25)).alloc (by simp) (.cells (u32s h0).toArray 22)
  have R1 := (Ro.new w 25 (vals (List.replicate 32 0))).alloc (.cells (u32s h0).toArray 22)
  have H1 := Ro.new (w.alloc (.cells (vals (List.replicate 32 0)).toArray 25)) 22 (u32s h0)
  rw [World.size_alloc] at H1
  have HB1 := Lib.hid B1
  have HR1 := Lib.hid R1
  have HH1 := Lib.hid H1
  have HL1 := Lib.hid (hL.later B1)
  have HLN : Hid (L.length ≤ 274877906944) := Lib.hid (by rw [hL.len]; exact hn)
  clear B1 R1 H1 hL
  obtain ⟨w1, hw1⟩ : ∃ w1, w1 = (w.alloc (.cells (vals (List.replicate 32 0)).toArray 25)).alloc (.cells (u32s h0).toArray 22) := ⟨_, rfl⟩
  have s1 : w1.heap.size = w.heap.size + 2 := by rw [hw1]; simp
  have HS1 := Lib.hid s1
  have CT : Hid (Calls Tryz.prog 94 #[.slice A n c] w1 (GivesB w1 (text L))) := Lib.hid (text_any w1 (by omega) (by rw [hw1]; exact HL1.out))
  rw [← hw1] at HB1 HR1 HH1 HL1
  go_enter Tryz.func73, Tryz.ntmps73
  go_wp2_with fail
  refine (by rw [hw1] at CT; exact CT.out : Calls _ _ _ ((w.alloc (.cells (vals (List.replicate 32 0)).toArray 25)).alloc (.cells (u32s h0).toArray 22)) (GivesB ((w.alloc (.cells (vals (List.replicate 32 0)).toArray 25)).alloc (.cells (u32s h0).toArray 22)) (text L))).mono ?_
  rintro e wt ⟨A4, N, c4, rfl, hNc, OT⟩
  have OT1 : Hid (Own w1 (.slice A4 N c4) N (text L) wt) := Lib.hid (by rw [hw1]; exact OT)
  clear OT CT hw1
  go_wp2_with fail
  refine (k_any _).mono ?_
  rintro e w2 ⟨rfl, hk, hb2⟩
  have hN := OT1.out.len
  have TN : Hid (∀ a, A4 = some a → a.block ≠ w.heap.size + 1) := Lib.hid (fun a e => by
    have := (OT1.out.new a.block (by subst e; rfl)).1
    have := HS1.out
    omega)
  have BT := Lib.hid (OT1.out.reads.later hb2)
  have WK := Lib.hid hk
  have KN : Hid (wt.heap.size ≠ w.heap.size + 1) := Lib.hid (by have := OT1.out.bel.size; have := HS1.out; omega)
  have b2 : Below w1.heap.size w1 w2 := OT1.out.bel.trans (hb2.mono OT1.out.bel.size)
  have R2 := Lib.hid (HR1.out.later b2)
  have N2 : Hid (RsA w w2 h0 w2) := Lib.hid ⟨HH1.out.later b2, fun _ _ _ => rfl, Nat.le_refl _, HB1.out.trans (b2.mono HB1.out.size)⟩
  have Z2 : Hid (w.heap.size + 2 ≤ w2.heap.size) := Lib.hid (by have := b2.size; have := HS1.out; omega)
  clear hk hb2 b2 HR1 HH1 HL1 HB1
  have hM : N = 64 * (N / 64) := by
    have h := gap_full L.length
    have e : (text L).length = L.length + 1 + gapN L.length + 8 := by rw [text_eq, List.length_append, textA_len, bits8_len]
    omega
  have hS : shaS L = bytesS (pieces (text L) (N / 64)) := by unfold shaS; rw [hN]
  obtain ⟨T, hT⟩ : ∃ T, text L = T := ⟨_, rfl⟩
  rw [hT] at hN BT hS OT1
  have hTb := OT1.out.byt
  have HTB := Lib.hid hTb
  have HSH := Lib.hid hS
  have HTN := Lib.hid hN
  obtain ⟨M, hMM⟩ : ∃ M, N / 64 = M := ⟨_, rfl⟩
  rw [hMM] at hM HSH
  have n40 : N ≤ 1099511627776 := by
    have e : T.length = L.length + 1 + gapN L.length + 8 := by rw [← hT, text_eq, List.length_append, textA_len, bits8_len]
    have g : gapN L.length < 64 := Nat.mod_lt _ (by decide)
    have l := HLN.out
    omega
  clear hT hS hN hTb hMM OT1 HLN
  go_wp2_with fail
  go_loopw [6] (fun i wr => ∃ q : Nat, q ≤ M ∧ i = .int .i64 ((64 * q : Nat) : Int) ∧ RsA w w2 (pieces T q) wr) (fun i _ => N - (intOf i).toNat)
  case atStart => exact ⟨0, by omega, rfl, N2.out⟩
  case round =>
    clear N2
    obtain ⟨q, hq, rfl, NQ⟩ := hrel
    have HQ := Lib.hid NQ
    clear NQ
    by_cases hlt : q < M
    · have t1 : decide (((64 * q : Nat) : Int) < (N : Int)) = true := decide_eq_true (by omega)
      have lt1 : ((64 * q : Nat) : Int) < (N : Int) := by omega
      have b64 : 64 * q + 64 ≤ N := by omega
      have BQ := (HQ.out.bs BT.out (fun _ a e => TN.out a e)).cut (c := c4) (k := 64 * q) (m := 64) b64 hNc
      rw [if_neg (by omega)] at BQ
      have WQ := Lib.hid (HQ.out.ws WK.out (fun _ a e => by injection e with e; subst e; exact KN.out))
      have CW := Lib.hid (words_any (c := c4 - 64 * q) wr BQ)
      obtain ⟨p, hp⟩ : ∃ p, (T.drop (64 * q)).take 64 = p := ⟨_, rfl⟩
      rw [hp] at CW
      have HPP := Lib.hid hp
      clear BQ hp
      go_wp2_with fail
      refine CW.out.mono ?_
      rintro e w3 ⟨A7, n7, c7, rfl, _, W7⟩
      obtain rfl : n7 = 64 := by have h := W7.len; rw [sched_len] at h; exact h.symm
      have W3 := Lib.hid W7.reads
      have Q3 := Lib.hid (HQ.out.later W7.bel)
      have K3 := Lib.hid (WQ.out.later W7.bel)
      clear W7 CW WQ HQ
      have H8 : Hid ((pieces T q).length = 8) := Lib.hid (pieces_len T q)
      obtain ⟨H, hH⟩ : ∃ H, pieces T q = H := ⟨_, rfl⟩
      rw [hH] at Q3 H8
      have HH := Lib.hid hH
      clear hH
      have e0 := Q3.out.h.ws
      rw [H8.out] at e0
      have E0 := Lib.hid e0
      clear e0
      go_wp2_with (at_builtin; refine wpList_appw rfl _ _ rfl rfl (Wn.made0 (Below.refl _ _)) rfl (E0.out.later ((Below.refl _ _).alloc (Nat.le_refl _) _)) ?c3 ?_)
      case c3 => decide
      intro A8 c8 w4 _ h4 _
      have W8 : Hid (Ws w4 A8 8 (l8 (s8 H))) := Lib.hid (by rw [l8_s8 H8.out]; exact h4.reads)
      have V8 : Hid (∀ a, A8 = some a → w2.heap.size ≤ a.block) := Lib.hid (fun a e => Nat.le_trans Q3.out.size (h4.new a.block (by subst e; rfl)).1)
      have Q4 := Lib.hid (Q3.out.later h4.bel)
      have K4 := Lib.hid (K3.out.later h4.bel)
      have W4 := Lib.hid (W3.out.later h4.bel)
      clear h4 Q3 K3 W3 E0
      go_wp2_with fail
      go_loopw [8, 9] (fun l i wr => ∃ (t : Nat) (A8 : Option Addr) (c8 : Nat) (s : S8), t ≤ 64 ∧ l = .slice A8 8 c8 ∧ i = .int .i64 (t : Nat) ∧ s = rnds (sched p 64) (s8 H) t ∧ Ws wr A8 8 (l8 s) ∧ (∀ a, A8 = some a → w2.heap.size ≤ a.block) ∧ Below w4.heap.size w4 wr) (fun _ i _ => 64 - (intOf i).toNat)
      case atStart => exact ⟨0, A8, c8, s8 H, by omega, rfl, rfl, rfl, W8.out, V8.out, Below.refl _ _⟩
      case round =>
        clear W8 V8
        obtain ⟨t, A8, c8, ⟨a, b, c, d, e, f, g, hh⟩, ht, rfl, rfl, hs, W8, V8, bel⟩ := hrel
        have HV := Lib.hid V8
        clear V8
        have HS := Lib.hid hs
        have HW := Lib.hid W8
        have HB := Lib.hid bel
        clear hs W8 bel
        by_cases hlt2 : t < 64
        · have t2 : decide ((t : Int) < 64) = true := decide_eq_true (by omega)
          obtain ⟨a8, rfl, _, hc8⟩ := HW.out.cel (by decide)
          obtain ⟨a7, hA7, _, hc7⟩ := (W4.out.later HB.out).cel (by decide)
          subst hA7
          obtain ⟨ak, hAk, _, hck⟩ := (K4.out.later HB.out).cel (by decide)
          injection hAk with hAk
          subst hAk
          have cl : ∀ k, k < 8 → wr.cell? (if k = 0 then a8 else ⟨a8.block, a8.off + k, none⟩) = some (.int .u32 (nth (l8 ⟨a, b, c, d, e, f, g, hh⟩) k : Nat)) := fun k hk => by
            rw [← hc8 k hk]; unfold Addr.add; rfl
          have f0 : wr.cell? a8 = some (.int .u32 (a : Int)) := cl 0 (by decide)
          have f1 : wr.cell? ⟨a8.block, a8.off + 1, none⟩ = some (.int .u32 (b : Int)) := cl 1 (by decide)
          have f2 : wr.cell? ⟨a8.block, a8.off + 2, none⟩ = some (.int .u32 (c : Int)) := cl 2 (by decide)
          have f3 : wr.cell? ⟨a8.block, a8.off + 3, none⟩ = some (.int .u32 (d : Int)) := cl 3 (by decide)
          have f4 : wr.cell? ⟨a8.block, a8.off + 4, none⟩ = some (.int .u32 (e : Int)) := cl 4 (by decide)
          have f5 : wr.cell? ⟨a8.block, a8.off + 5, none⟩ = some (.int .u32 (f : Int)) := cl 5 (by decide)
          have f6 : wr.cell? ⟨a8.block, a8.off + 6, none⟩ = some (.int .u32 (g : Int)) := cl 6 (by decide)
          have f7 : wr.cell? ⟨a8.block, a8.off + 7, none⟩ = some (.int .u32 (hh : Int)) := cl 7 (by decide)
          have x1 := hc7 t hlt2
          have k1 := hck t hlt2
          have ek : (⟨wt.heap.size, 0, none⟩ : Addr).add t = ⟨wt.heap.size, t, none⟩ := by unfold Addr.add; split <;> simp_all
          rw [ek] at k1
          obtain ⟨kk, hkk⟩ : ∃ k, nth kTab t = k := ⟨_, rfl⟩
          obtain ⟨x, hx⟩ : ∃ x, nth (sched p 64) t = x := ⟨_, rfl⟩
          rw [hkk] at k1
          rw [hx] at x1
          have HK := Lib.hid hkk
          have HX := Lib.hid hx
          clear hkk hx cl hc8 hc7 hck ek
          go_wp2_with fail
          refine (right_any _ 6 (by decide) (by decide) _).mono ?_
          rintro e' wa ⟨rfl, rfl⟩
          go_wp2_with fail
          refine (right_any _ 11 (by decide) (by decide) _).mono ?_
          rintro e' wa ⟨rfl, rfl⟩
          go_wp2_with fail
          refine (right_any _ 25 (by decide) (by decide) _).mono ?_
          rintro e' wa ⟨rfl, rfl⟩
          go_wp2_with fail
          go_quiet (fail)
          have hr : rnds (sched p 64) (s8 H) (t + 1) = ⟨ad (oneS e f g hh kk x) (twoS a b c), a, b, c, ad d (oneS e f g hh kk x), e, f, g⟩ := by
            rw [rnds, ← HS.out, HK.out, HX.out, rnd_eq]
          rw [one_eq2 e f g hh kk x]
          obtain ⟨one, h1⟩ : ∃ one, oneS e f g hh kk x = one := ⟨_, rfl⟩
          rw [h1] at hr
          rw [h1]
          have H1 := Lib.hid h1
          have HRR := Lib.hid hr
          clear h1 hr x1 k1
          rw [not_lit]
          simp only [bits_xo, bits_an]
          obtain ⟨wq, hwq⟩ : ∃ z, z = World.drewN wr nq := ⟨_, rfl⟩
          rw [← hwq]
          replace f0 : World.cell? wq a8 = some (.int .u32 (a : Int)) := by rw [hwq]; exact f0
          replace f1 : World.cell? wq ⟨a8.block, a8.off + 1, none⟩ = some (.int .u32 (b : Int)) := by rw [hwq]; exact f1
          replace f2 : World.cell? wq ⟨a8.block, a8.off + 2, none⟩ = some (.int .u32 (c : Int)) := by rw [hwq]; exact f2
          replace f3 : World.cell? wq ⟨a8.block, a8.off + 3, none⟩ = some (.int .u32 (d : Int)) := by rw [hwq]; exact f3
          replace f4 : World.cell? wq ⟨a8.block, a8.off + 4, none⟩ = some (.int .u32 (e : Int)) := by rw [hwq]; exact f4
          replace f5 : World.cell? wq ⟨a8.block, a8.off + 5, none⟩ = some (.int .u32 (f : Int)) := by rw [hwq]; exact f5
          replace f6 : World.cell? wq ⟨a8.block, a8.off + 6, none⟩ = some (.int .u32 (g : Int)) := by rw [hwq]; exact f6
          replace f7 : World.cell? wq ⟨a8.block, a8.off + 7, none⟩ = some (.int .u32 (hh : Int)) := by rw [hwq]; exact f7
          replace HB : Hid (Below w4.heap.size w4 wq) := Lib.hid (by rw [hwq]; exact below_drewN HB.out _)
          clear hwq
          go_wp2_with fail
          refine (right_any _ 2 (by decide) (by decide) _).mono ?_
          rintro e' wa ⟨rfl, rfl⟩
          go_wp2_with fail
          refine (right_any _ 13 (by decide) (by decide) _).mono ?_
          rintro e' wa ⟨rfl, rfl⟩
          go_wp2_with fail
          refine (right_any _ 22 (by decide) (by decide) _).mono ?_
          rintro e' wa ⟨rfl, rfl⟩
          go_wp2_with fail
          go_quiet (fail)
          rw [two_eq a b c]
          obtain ⟨two, h2⟩ : ∃ two, twoS a b c = two := ⟨_, rfl⟩
          rw [h2]
          have HR2 : Hid (rnds (sched p 64) (s8 H) (t + 1) = ⟨ad one two, a, b, c, ad d one, e, f, g⟩) := Lib.hid (by rw [HRR.out, h2])
          simp only [bits_xo, bits_an]
          clear h2 HRR
          obtain ⟨wp, hwq⟩ : ∃ z, z = World.drewN wq nq := ⟨_, rfl⟩
          rw [← hwq]
          replace f0 : World.cell? wp a8 = some (.int .u32 (a : Int)) := by rw [hwq]; exact f0
          replace f1 : World.cell? wp ⟨a8.block, a8.off + 1, none⟩ = some (.int .u32 (b : Int)) := by rw [hwq]; exact f1
          replace f2 : World.cell? wp ⟨a8.block, a8.off + 2, none⟩ = some (.int .u32 (c : Int)) := by rw [hwq]; exact f2
          replace f3 : World.cell? wp ⟨a8.block, a8.off + 3, none⟩ = some (.int .u32 (d : Int)) := by rw [hwq]; exact f3
          replace f4 : World.cell? wp ⟨a8.block, a8.off + 4, none⟩ = some (.int .u32 (e : Int)) := by rw [hwq]; exact f4
          replace f5 : World.cell? wp ⟨a8.block, a8.off + 5, none⟩ = some (.int .u32 (f : Int)) := by rw [hwq]; exact f5
          replace f6 : World.cell? wp ⟨a8.block, a8.off + 6, none⟩ = some (.int .u32 (g : Int)) := by rw [hwq]; exact f6
          replace f7 : World.cell? wp ⟨a8.block, a8.off + 7, none⟩ = some (.int .u32 (hh : Int)) := by rw [hwq]; exact f7
          replace HB : Hid (Below w4.heap.size w4 wp) := Lib.hid (by rw [hwq]; exact below_drewN HB.out _)
          clear hwq
          go_wp2_with fail
          refine wp_region_grow 22 (by kernel_rfl) (Nat.le_of_ble_eq_true (by kernel_rfl)) (by kernel_rfl) (by kernel_rfl) (fun _ _ _ _ _ h => h) ?_
          apply Exists.intro
          refine ⟨?_, ?_⟩
          · intro wg hg
            simp only [List.take_succ_cons, List.take_zero]
            have u1 : ∀ u : After wg, u.w.cell? ⟨a8.block, a8.off + 1, none⟩ = some (.int .u32 (b : Int)) := fun u => u.cell (cell_later hg f1)
            have u2 : ∀ u : After wg, u.w.cell? ⟨a8.block, a8.off + 2, none⟩ = some (.int .u32 (c : Int)) := fun u => u.cell (cell_later hg f2)
            have u3 : ∀ u : After wg, u.w.cell? ⟨a8.block, a8.off + 3, none⟩ = some (.int .u32 (d : Int)) := fun u => u.cell (cell_later hg f3)
            have u5 : ∀ u : After wg, u.w.cell? ⟨a8.block, a8.off + 5, none⟩ = some (.int .u32 (f : Int)) := fun u => u.cell (cell_later hg f5)
            have u6 : ∀ u : After wg, u.w.cell? ⟨a8.block, a8.off + 6, none⟩ = some (.int .u32 (g : Int)) := fun u => u.cell (cell_later hg f6)
            repeat (go_big_quiet_step (fail))
            refine wpQuiet_nil ?_
            exact rfl
          intro wg hg
          show wpK _ _ _ _ _ 2 _ _ _
          refine wpK_one (f := 1) (i := 22) (by kernel_rfl) rfl rfl ?_
          intro wc gc K hK
          go_simp
          rw [ad_eq one two, ad_eq d one]
          have GA : Below wc.heap.size wc (wc.alloc (.cells (u32s (l8 ⟨ad one two, a, b, c, ad d one, e, f, g⟩)).toArray 22)) := (Below.refl _ _).alloc (Nat.le_refl _) _
          refine hK _ _ (hg.trans (gc.trans GA)) ?_
          clear hK K
          have WN := Ws.row wc (l8 ⟨ad one two, a, b, c, ad d one, e, f, g⟩)
          refine wpK_one (f := 0) (i := 23) (by kernel_rfl) rfl rfl ?_
          intro wd gd K hK
          go_simp
          refine hK _ _ (hg.trans (gc.trans (GA.trans (gd.mono GA.size)))) ?_
          clear hK K
          refine wpK_end (by kernel_rfl) ?_
          intro we ge
          have W5 : Hid (Ws we (some ⟨wc.heap.size, 0, none⟩) 8 (l8 ⟨ad one two, a, b, c, ad d one, e, f, g⟩)) := Lib.hid ((WN.later gd).later ge)
          have B5 : Hid (Below w4.heap.size w4 we) := Lib.hid (HB.out.trans ((((hg.trans gc).trans GA).trans gd).trans ge |>.mono HB.out.size))
          have LW : w2.heap.size ≤ wc.heap.size := Nat.le_trans Q4.out.size (Nat.le_trans HB.out.size (Nat.le_trans hg.size gc.size))
          clear WN GA gd gc ge hg f0 f1 f2 f3 f4 f5 f6 f7 HB HW
          have V5 : Hid (w2.heap.size ≤ wc.heap.size) := Lib.hid LW
          clear LW
          go_wp2_with fail
          exact ⟨⟨t + 1, _, _, _, by omega, rfl, by go_num, HR2.out.symm, W5.out, fun a e => by injection e with e; subst e; exact V5.out, B5.out⟩, by simp [intOf]; omega⟩
        · obtain rfl : t = 64 := by omega
          have hf := midH_full H p _ HS.out
          obtain ⟨l, hl⟩ : ∃ l, l8 ⟨a, b, c, d, e, f, g, hh⟩ = l := ⟨_, rfl⟩
          rw [hl] at HW hf
          have HF := Lib.hid hf
          have Q5 : Hid (RsA w w2 (midH H l 0) wr) := Lib.hid (by rw [midH_zero l H8.out]; exact Q4.out.later HB.out)
          clear hl hf HS K4 W4
          go_wp2_with fail
          go_loopw [16] (fun i wr => ∃ k : Nat, k ≤ 8 ∧ i = .int .i64 (k : Nat) ∧ RsA w w2 (midH H l k) wr ∧ Ws wr A8 8 l) (fun i _ => 8 - (intOf i).toNat)
          case atStart => exact ⟨0, by omega, rfl, Q5.out, HW.out⟩
          case round =>
            clear Q5 HW HB
            obtain ⟨k, hk, rfl, Q, hl⟩ := hrel
            have HQ := Lib.hid Q
            have HW := Lib.hid hl
            clear Q hl
            by_cases hlt3 : k < 8
            · have t3 : decide ((k : Int) < 8) = true := decide_eq_true (by omega)
              have c1 := HQ.out.h.u32 (k := k) (by rw [midH_len]; exact hlt3)
              have f1 := HQ.out.h.free k
              rw [midH_get H l hlt3, if_neg (by omega)] at c1
              obtain ⟨a8, rfl, _, hc8⟩ := HW.out.cel (by decide)
              have c2 := hc8 k hlt3
              have Q6 : Hid (RsA w w2 (midH H l (k + 1)) (wr.setCell ⟨w.heap.size + 1, k, none⟩ (.int .u32 ((ad (nth H k) (nth l k) : Nat) : Int)))) := Lib.hid (by rw [← midH_next H l hlt3]; exact HQ.out.set _ _)
              have W6 : Hid (Ws (wr.setCell ⟨w.heap.size + 1, k, none⟩ (.int .u32 ((ad (nth H k) (nth l k) : Nat) : Int))) (some a8) 8 l) := Lib.hid (HW.out.other (fun a e => by have := HV.out a e; have := Z2.out; omega) _)
              obtain ⟨x, hx⟩ : ∃ x, nth H k = x := ⟨_, rfl⟩
              obtain ⟨y, hy⟩ : ∃ y, nth l k = y := ⟨_, rfl⟩
              rw [hx] at c1 Q6 W6
              rw [hy] at c2 Q6 W6
              have ea := ad_eq x y
              clear hx hy hc8 HQ HW
              go_wp2_with fail
              go_region
              all_goals go_wp2_with fail
              exact ⟨⟨k + 1, by omega, by go_num, Q6.out.drew, W6.out.later (Below.refl _ _).drew⟩, by simp [intOf]; omega⟩
            · obtain rfl : k = 8 := by omega
              have Q6 : Hid (RsA w w2 (pieces T (q + 1)) wr) := Lib.hid (by rw [pieces, HH.out, HPP.out, ← HF.out]; exact HQ.out)
              clear HQ HW HF
              go_wp2_with fail
              exact ⟨⟨q + 1, by omega, by go_num, Q6.out⟩, by simp [intOf]; omega⟩
    · obtain rfl : q = M := by omega
      have t1 : decide (((64 * q : Nat) : Int) < (N : Int)) = false := decide_eq_false (by omega)
      have lt1 : ¬ ((64 * q : Nat) : Int) < (N : Int) := by omega
      have H8 : Hid ((pieces T q).length = 8) := Lib.hid (pieces_len T q)
      obtain ⟨H, hH⟩ : ∃ H, pieces T q = H := ⟨_, rfl⟩
      rw [hH] at HQ H8 HSH
      clear hH
      have R5 : Hid (Ro wr w.heap.size 25 (vals (List.replicate 32 0))) := Lib.hid (R2.out.same (HQ.out.old _ R2.out.lt (by omega)))
      have O5 := Ro.new wr 25 (vals (upW (byT H 0) 32))
      have G5 : Below wr.heap.size wr (wr.alloc (.cells (vals (upW (byT H 0) 32)).toArray 25)) := (Below.refl _ _).alloc (Nat.le_refl _) _
      have P5 : Hid (RpA w w2 H wr.heap.size 0 (wr.alloc (.cells (vals (upW (byT H 0) 32)).toArray 25))) := Lib.hid ⟨HQ.out.later G5, R5.out.later G5, O5⟩
      have Z5 : Hid (w.heap.size + 2 ≤ wr.heap.size) := Lib.hid (Nat.le_trans Z2.out HQ.out.size)
      obtain ⟨g, hg⟩ : ∃ g, wr.heap.size = g := ⟨_, rfl⟩
      have GG : Hid (w2.heap.size ≤ g) := Lib.hid (by rw [← hg]; exact HQ.out.size)
      rw [hg] at P5
      clear O5 G5 R5 HQ Z5
      go_wp2_with fail
      clear hg
      go_loopw [18] (fun i wr => ∃ k : Nat, k ≤ 32 ∧ i = .int .i64 (k : Nat) ∧ RpA w w2 H g k wr) (fun i _ => 32 - (intOf i).toNat)
      case atStart => exact ⟨0, by omega, rfl, P5.out⟩
      case round =>
        clear P5
        obtain ⟨i, hi, rfl, P⟩ := hrel
        have HP := Lib.hid P
        clear P
        by_cases hlt4 : i < 32
        · have t4 : decide ((i : Int) < 32) = true := decide_eq_true (by omega)
          have c1 := HP.out.q.h.u32 (k := i / 4) (by rw [H8.out]; omega)
          have c2 := HP.out.o.u8 (k := i) (by rw [upW_len (by rw [byT_len]; omega)]; omega)
          have f2 := HP.out.o.free i
          obtain ⟨k, hk⟩ : ∃ k, k = i / 4 := ⟨_, rfl⟩
          rw [← hk] at c1
          have k8 : k < 8 := by omega
          have e1 : (i : Int) / 4 = (k : Int) := by omega
          obtain ⟨x, hx⟩ : ∃ x, nth H k = x := ⟨_, rfl⟩
          rw [hx] at c1
          have j4 : i = 4 * k + 0 ∨ i = 4 * k + 1 ∨ i = 4 * k + 2 ∨ i = 4 * k + 3 := by omega
          clear hk
          rcases j4 with hk | hk | hk | hk
          · have e2 : (i : Int) % 4 = 0 := by omega
            have hb := byte_at (h := H) (t := k) (j := 0) (by decide) hx
            rw [← hk] at hb
            have Q6 : Hid (RpA w w2 H g (i + 1) (wr.setCell ⟨g, i, none⟩ (.int .u8 ((x / 16777216 % 256 : Nat) : Int)))) := Lib.hid (HP.out.step GG.out Z2.out hlt4 (by rw [hb]))
            clear hx hb hk HP
            go_wp2_with fail
            exact ⟨⟨i + 1, by omega, by go_num, Q6.out⟩, by simp [intOf]; omega⟩
          · have e2 : (i : Int) % 4 = 1 := by omega
            have hb := byte_at (h := H) (t := k) (j := 1) (by decide) hx
            rw [← hk] at hb
            have Q6 : Hid (RpA w w2 H g (i + 1) (wr.setCell ⟨g, i, none⟩ (.int .u8 ((x / 65536 % 256 : Nat) : Int)))) := Lib.hid (HP.out.step GG.out Z2.out hlt4 (by rw [hb]))
            clear hx hb hk HP
            go_wp2_with fail
            exact ⟨⟨i + 1, by omega, by go_num, Q6.out⟩, by simp [intOf]; omega⟩
          · have e2 : (i : Int) % 4 = 2 := by omega
            have hb := byte_at (h := H) (t := k) (j := 2) (by decide) hx
            rw [← hk] at hb
            have Q6 : Hid (RpA w w2 H g (i + 1) (wr.setCell ⟨g, i, none⟩ (.int .u8 ((x / 256 % 256 : Nat) : Int)))) := Lib.hid (HP.out.step GG.out Z2.out hlt4 (by rw [hb]))
            clear hx hb hk HP
            go_wp2_with fail
            exact ⟨⟨i + 1, by omega, by go_num, Q6.out⟩, by simp [intOf]; omega⟩
          · have e2 : (i : Int) % 4 = 3 := by omega
            have hb := byte_at (h := H) (t := k) (j := 3) (by decide) hx
            rw [← hk] at hb
            have Q6 : Hid (RpA w w2 H g (i + 1) (wr.setCell ⟨g, i, none⟩ (.int .u8 ((x % 256 : Nat) : Int)))) := Lib.hid (HP.out.step GG.out Z2.out hlt4 (by rw [hb, show 2 ^ (24 - 8 * 3) = 1 from rfl, Nat.div_one]))
            clear hx hb hk HP
            go_wp2_with fail
            exact ⟨⟨i + 1, by omega, by go_num, Q6.out⟩, by simp [intOf]; omega⟩
        · obtain rfl : i = 32 := by omega
          have P6 := HP.out.o
          rw [byT_full] at P6
          have HP6 := Lib.hid P6
          clear P6
          go_wp2_with (first | (refine wpList_load_ro rfl (.tmp 17) rfl rfl row26 HP6.out (by rw [vals_length, bytesS_len]) ?_) | (refine wpList_store_ro rfl (.tmp 2) (.tmp 170) rfl rfl rfl row26 HP.out.r (by simp [vals]) (by rw [vals_length, bytesS_len]) (vals_one _) ?_))
          intro w9 R9 g9
          go_wp2_with fail
          exact bodyPost_ret (results_ro Tryz.results73 _ rfl row26 R9 (by rw [vals_length, bytesS_len])) rfl ⟨by rw [HSH.out], HP.out.q.bel.grown g9 HP.out.q.bel.size (fun q e => by injection e; omega)⟩
end Go.Proofs.YtimjmmiajgfblaaGreatDoor

/- The reference's sum of the sum. No condition but a bound on the length. -/
namespace Go.Proofs.YtimjmmiajgfblaaGreatDoor
open Go.RowKit
set_option maxRecDepth 100000 in
set_option maxHeartbeats 4000000 in
theorem refTwice_any {M : List Nat} (hm : M.length ≤ 274877906944) (w : World) {A : Option Addr} {c : Nat} (hA : Bs w A M.length M) :
    Calls Tryz.prog 49 #[.slice A M.length c] w fun e w' => e = .returned (.agg (vals (shaS (shaS M))).toArray) ∧ Below w.heap.size w w' := by
  have R1 := Lib.hid (Ro.new w 25 (vals (List.replicate 32 0)))
  have B1 := Lib.hid ((Below.refl w.heap.size w).alloc (Nat.le_refl _) (.cells (vals (List.replicate 32 0)).toArray 25))
  have CA : Hid (∀ w1, Below w.heap.size w w1 → Calls Tryz.prog 73 #[.slice A M.length c] w1 fun e w' => e = .returned (.agg (vals (shaS M)).toArray) ∧ Below w1.heap.size w1 w') := Lib.hid (fun w1 h => refSum_any w1 hm (hA.later h))
  clear hA hm
  obtain ⟨m, hmm⟩ : ∃ m, M.length = m := ⟨_, rfl⟩
  rw [hmm] at CA ⊢
  clear hmm
  go_enter Tryz.func49, Tryz.ntmps49
  go_wp2_with fail
  refine (CA.out _ B1.out).mono ?_
  rintro e w2 ⟨rfl, hb⟩
  have R2 := Lib.hid (R1.out.later hb)
  have B2 := Lib.hid (B1.out.trans (hb.mono B1.out.size))
  clear hb R1 B1 CA
  obtain ⟨H, hH⟩ : ∃ H, shaS M = H := ⟨_, rfl⟩
  have H32 : Hid (H.length = 32) := Lib.hid (by rw [← hH]; exact shaS_len M)
  have HB : Hid (AllB H) := Lib.hid (by rw [← hH]; exact shaS_byt M)
  rw [hH]
  have HH := Lib.hid hH
  clear hH
  have N2 := Ro.new w2 25 (vals (List.replicate 32 0))
  have SM := Lib.hid ((Below.refl w2.heap.size w2).alloc (Nat.le_refl _) (.cells (vals (List.replicate 32 0)).toArray 25))
  go_wp2_with (refine wpList_store_ro rfl (.tmp 3) (.tmp 5) rfl rfl rfl row26 N2 (by rw [vals_length]; rfl) (by rw [vals_length]; exact H32.out) (vals_one _) ?_)
  intro w3 R3 g3
  have N3 := Lib.hid R3
  have Q3 := Lib.hid ((R2.out.later SM.out).far g3 (fun e => by injection e; have := R2.out.lt; omega))
  have B3 := Lib.hid ((B2.out.trans (SM.out.mono B2.out.size)).grown g3 (by have := B2.out.size; simp; omega) (fun q e => by injection e; have := B2.out.size; omega))
  clear R3 g3 R2 B2 SM N2
  have CB : Hid (Calls Tryz.prog 73 #[.slice (some ⟨w2.heap.size, 0, none⟩) 32 32] w3 fun e w' => e = .returned (.agg (vals (shaS H)).toArray) ∧ Below w3.heap.size w3 w') := Lib.hid (by
    have h := refSum_any w3 (by rw [H32.out]; omega) (c := 32) (N3.out.bs HB.out)
    rwa [H32.out] at h)
  go_wp2_with fail
  refine CB.out.mono ?_
  rintro e w4 ⟨rfl, hb⟩
  have R4 := Lib.hid (Q3.out.later hb)
  have B4 := Lib.hid (B3.out.trans (hb.mono B3.out.size))
  clear hb Q3 B3 CB
  go_wp2_with (refine wpList_store_ro rfl (.tmp 2) (.tmp 7) rfl rfl rfl row26 R4.out (by rw [vals_length]; rfl) (by rw [vals_length]; exact shaS_len _) (vals_one _) ?_)
  intro w5 R5 g5
  go_wp2_with fail
  exact bodyPost_ret (results_ro Tryz.results49 _ rfl row26 R5 (by rw [vals_length]; exact shaS_len _)) rfl ⟨by rw [HH.out], B4.out.grown g5 B4.out.size (fun q e => by injection e; omega)⟩
end Go.Proofs.YtimjmmiajgfblaaGreatDoor
