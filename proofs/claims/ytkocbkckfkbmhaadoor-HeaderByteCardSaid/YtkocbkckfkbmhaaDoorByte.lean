/- HeaderByte: each of the 80 bytes belongs to just one field. No condition but that the tables lie as laid. -/
import Derived.Test.YtkocbkckfkbmhaaDoorWorks
import Derived.Test.YtkocbkckfkbmhaaDoorByteL
import Derived.Deep.Cut
namespace Go.Proofs.YtkocbkckfkbmhaaDoor
open Go.RowKit

theorem set_v {g : Hd} (x : Nat) : (hdV g).set 0 (.int .u32 (x : Int)) = hdV { g with v := x } := rfl
theorem set_p {g : Hd} (hp : g.p.length = 32) {j : Nat} (hj : j < 32) (x : Nat) : (hdV g).set (1 + j) (.int .u8 (x : Int)) = hdV { g with p := g.p.set j x } := by
  unfold hdV
  rw [Nat.add_comm, List.set_cons_succ, List.set_append_left _ _ (by rw [vals_length]; omega), vals_set]
theorem set_r {g : Hd} (hp : g.p.length = 32) (hr : g.r.length = 32) {j : Nat} (hj : j < 32) (x : Nat) : (hdV g).set (33 + j) (.int .u8 (x : Int)) = hdV { g with r := g.r.set j x } := by
  unfold hdV
  rw [show 33 + j = (32 + j) + 1 by omega, List.set_cons_succ, List.set_append_right _ _ (by rw [vals_length]; omega), vals_length, hp, Nat.add_sub_cancel_left, List.set_append_left _ _ (by rw [vals_length]; omega), vals_set]
theorem hdV_p {g : Hd} (hp : g.p.length = 32) {j : Nat} (hj : j < 32) : (hdV g)[1 + j]? = some (.int .u8 (nth g.p j : Nat)) := by
  unfold hdV
  rw [Nat.add_comm, List.getElem?_cons_succ, List.getElem?_append_left (by rw [vals_length]; omega)]
  exact vals_get _ _ (by omega)
theorem hdV_r {g : Hd} (hp : g.p.length = 32) (hr : g.r.length = 32) {j : Nat} (hj : j < 32) : (hdV g)[33 + j]? = some (.int .u8 (nth g.r j : Nat)) := by
  unfold hdV
  rw [show 33 + j = (32 + j) + 1 by omega, List.getElem?_cons_succ, List.getElem?_append_right (by rw [vals_length]; omega), vals_length, hp, Nat.add_sub_cancel_left, List.getElem?_append_left (by rw [vals_length]; omega)]
  exact vals_get _ _ (by omega)

theorem nth_p {h : Hd} (o : h.Ok) {j : Nat} (hj : j < 32) : nth (hdB h) (j + 4) = nth h.p j := by
  have := nth_right (le4 h.v) (h.p ++ (h.r ++ (le4 h.t ++ (le4 h.b ++ le4 h.n)))) j
  rw [le4_len, Nat.add_comm 4 j] at this
  unfold hdB
  rw [this, nth_left (by rw [o.p]; exact hj)]
theorem nth_r {h : Hd} (o : h.Ok) {j : Nat} (hj : j < 32) : nth (hdB h) (j + 36) = nth h.r j := by
  have := nth_right (le4 h.v ++ h.p) (h.r ++ (le4 h.t ++ (le4 h.b ++ le4 h.n))) j
  rw [List.length_append, le4_len, o.p, Nat.add_comm (4 + 32) j, List.append_assoc] at this
  unfold hdB
  rw [this, nth_left (by rw [o.r]; exact hj)]

set_option maxRecDepth 100000 in
set_option maxHeartbeats 8000000 in
theorem byte_law {h : Hd} {at_ by_ : Nat} {w : World} (o : h.Ok) (ha : at_ < 256) (hb : by_ < 256) (hLd : Laid w) :
    Calls Tryd.prog 6 #[.agg (hdV h).toArray, .int .u8 (at_ : Nat), .int .u8 (by_ : Nat)] w fun e w' => e = .returned (.bool true) ∧ Below w.heap.size w w' := by
  have HD := Lib.hid hLd
  have ok := Lib.hid o
  have ll := Lib.hid (hdV_len o)
  have HL := Lib.hid (hdB_len o)
  clear hLd o
  have fin : ∀ w1, Below w.heap.size w w1 → Calls Tryd.prog 11 #[] w1 fun e w' => e = .returned (.bool true) ∧ Below w.heap.size w w' := fun w1 b => (works_any w1 (HD.out.later HD.out.lt b)).mono fun e w' ⟨h1, h2⟩ => ⟨h1, b.trans (h2.mono b.size)⟩
  have FIN := Lib.hid fin
  clear fin
  obtain ⟨k, hk⟩ : ∃ k, at_ % 80 = k := ⟨_, rfl⟩
  have k80 : k < 80 := by omega
  have z2 : (at_ : Int) % 80 = (k : Int) := by omega
  have HK := Lib.hid hk
  clear hk
  have B0 := Lib.hid ((Below.refl w.heap.size w).alloc (Nat.le_refl _) (.cells (hdV h).toArray 26))
  have R0 := Lib.hid (Ro.new w 26 (hdV h))
  go_enter Tryd.func6, Tryd.ntmps6
  go_wp2_with (refine wpList_load_ro rfl (.tmp 3) rfl rfl rowHd R0.out ll.out ?_)
  refine (put_any ok.out _).mono ?_
  rintro e w1 ⟨b, rfl, hbs, hr, hb1⟩
  have B1 := Lib.hid (B0.out.trans (hb1.mono B0.out.size))
  have R1 := Lib.hid (R0.out.later hb1)
  have X1 := Lib.hid hr
  have NB : Hid (w.heap.size < b) := Lib.hid (by simp at hbs; omega)
  clear hbs hr hb1 B0 R0
  have c0 := X1.out.u8 (k := k) (by rw [HL.out]; exact k80)
  have f0 := X1.out.free k
  have ad := add_at b 0
  have xl := nth_lt (hdB_byt ok.out) k
  have xo := xor_u8 (nth (hdB h) k) by_ xl hb
  have yl := xor_lt xl hb
  have HT := Lib.hid (turned_iff ok.out k80 hb)
  have HS := Lib.hid (getH_set (L := hdB h) (k := k) (y := nth (hdB h) k ^^^ by_) HL.out k80)
  have E0 := getH_hdB ok.out
  rw [E0] at HS
  have HBY := Lib.hid (set_byt (k := k) (hdB_byt ok.out) yl)
  have HX := Lib.hid (rfl : nth (hdB h) k = nth (hdB h) k)
  obtain ⟨x, hx⟩ : ∃ x, nth (hdB h) k = x := ⟨_, rfl⟩
  rw [hx] at c0 xo yl HT HS HBY xl
  have XN := Lib.hid hx
  obtain ⟨y, hy⟩ : ∃ y, x ^^^ by_ = y := ⟨_, rfl⟩
  rw [hy] at xo yl HT HS HBY
  have YN := Lib.hid hy
  clear hx hy E0 HX
  go_wp2_with fail
  have R2 : Hid (Ro (w1.setCell ⟨b, k, none⟩ (.int .u8 (y : Int))) w.heap.size 26 (hdV h)) := Lib.hid (R1.out.other (by have := NB.out; omega) _)
  have X2 : Hid (Ro (w1.setCell ⟨b, k, none⟩ (.int .u8 (y : Int))) b 5 (vals ((hdB h).set k y))) := Lib.hid (X1.out.set8 k y)
  have B2 : Hid (Below w.heap.size w (w1.setCell ⟨b, k, none⟩ (.int .u8 (y : Int)))) := Lib.hid (B1.out.setCell (by have := NB.out; show w.heap.size ≤ b; omega) _)
  have L2 : Hid (((hdB h).set k y).length = 80) := Lib.hid (by rw [List.length_set]; exact HL.out)
  obtain ⟨G, hG⟩ : ∃ G, getH ((hdB h).set k y) = G := ⟨_, rfl⟩
  have CG := get_any (c := 80) (w1.setCell ⟨b, k, none⟩ (.int .u8 (y : Int))) (n := 80) rfl (Nat.le_refl _) (by have q := X2.out.bs HBY.out; rwa [L2.out] at q)
  have gok := Lib.hid (getH_ok HBY.out L2.out)
  have gl := Lib.hid (hdV_len (getH_ok HBY.out L2.out))
  rw [hG] at CG gok gl HT HS
  have GN := Lib.hid hG
  clear hG xo R1 X1 B1 c0 f0
  refine CG.mono ?_
  rintro e w3 ⟨rfl, hb3⟩
  have R3 := Lib.hid (R2.out.later hb3)
  have B3 := Lib.hid (B2.out.trans (hb3.mono B2.out.size))
  clear hb3 R2 B2 X2 CG
  have z0 := zeroHd
  go_wp2_with (refine wpList_store_ro rfl (.tmp 9) (.tmp 31) rfl rfl rfl rowHd (Ro.new w3 26 (hdV zeroH)) rfl gl.out (hdV_one _) ?_)
  intro w4 X4 g4
  have R4 := Lib.hid (R3.out.later (box_store g4))
  have B4 := Lib.hid (B3.out.trans ((box_store g4).mono B3.out.size))
  have HX4 := Lib.hid X4
  have NE : Hid (w.heap.size < w3.heap.size) := Lib.hid R3.out.lt
  clear X4 g4 R3 B3 z0
  obtain ⟨xb, hxb⟩ : ∃ q, q = w3.heap.size := ⟨_, rfl⟩
  rw [← hxb] at HX4 NE ⊢
  clear hxb
  have EQ := fun u => eq_hd gok.out ok.out u
  have t5 : ((by_ : Int) == 0) = decide (G = h) := by
    rw [Bool.eq_iff_iff, beq_iff_eq, decide_eq_true_eq, HT.out]
    omega
  go_upto_region 9 with (first | (refine BigFrame.wpList_want (by rfl) fun K hK => wp_load_ro (.tmp 9) rfl rfl rowHd HX4.out gl.out (hK _ _ ?_)) | (refine BigFrame.wpList_want (by rfl) fun K hK => wp_load_ro (.tmp 3) rfl rfl rowHd R4.out ll.out (hK _ _ ?_)))
  rcases HS.out with ⟨k1, xx, e⟩ | ⟨k1, k2, e⟩ | ⟨k1, k2, e⟩ | ⟨k1, k2, xx, e⟩ | ⟨k1, k2, xx, e⟩ | ⟨k1, xx, e⟩
  · have HE := Lib.hid e
    clear e
    have d4 : decide ((k : Int) < 4) = true := decide_eq_true (by omega)
    have c1 := R4.out.cell (hdV_no ok.out (k := 0) (by decide))
    have c2 := HX4.out.cell (hdV_no gok.out (k := 0) (by decide))
    have c3 := HX4.out.free 0
    simp only [noN, poN, List.getD_cons_zero, List.getD_cons_succ] at c1 c2
    have E : Hid ((hdV G).set (0) (.int .u32 (h.v : Nat)) = hdV h) := Lib.hid (by
      have q := set_no gok.out.p gok.out.r (k := 0) (by decide) h.v
      simp only [poN, List.getD_cons_zero, List.getD_cons_succ] at q
      rw [q, HE.out]
      rfl)
    have R5 : Hid (Ro (w4.setCell ⟨xb, 0, none⟩ (.int .u32 (h.v : Nat))) w.heap.size 26 (hdV h)) := Lib.hid (R4.out.other (by have := NE.out; omega) _)
    have X5 : Hid (Ro (w4.setCell ⟨xb, 0, none⟩ (.int .u32 (h.v : Nat))) xb 26 (hdV h)) := Lib.hid (by have q := HX4.out.set (0) (.int .u32 (h.v : Nat)); rwa [E.out] at q)
    have B5 : Hid (Below w.heap.size w (w4.setCell ⟨xb, 0, none⟩ (.int .u32 (h.v : Nat)))) := Lib.hid (B4.out.setCell (by have := NE.out; show w.heap.size ≤ xb; omega) _)
    have EH := fun u => eq_hd ok.out ok.out u
    rw [decide_eq_true rfl] at EH
    go_wp2_with (first | (refine wpList_load_ro rfl (.tmp 9) rfl rfl rowHd X5.out ll.out ?_) | (refine wpList_load_ro rfl (.tmp 3) rfl rfl rowHd R5.out ll.out ?_))
    refine (FIN.out _ B5.out).mono ?_
    rintro e w9 ⟨rfl, hb9⟩
    have B9 := Lib.hid hb9
    clear hb9
    go_wp2_with fail
    go_ret
    exact ⟨rfl, B9.out⟩
  · obtain ⟨j, hj⟩ : ∃ j, j = k - 4 := ⟨_, rfl⟩
    rw [← hj] at e
    have HE := Lib.hid e
    have HJ : Hid (k = j + 4) := Lib.hid (by omega)
    have j32 : j < 32 := by omega
    have z6 : (k : Int) - 4 = (j : Int) := by omega
    clear e hj
    have d4 : decide ((k : Int) < 4) = false := decide_eq_false (by omega)
    have d36 : decide ((k : Int) < 36) = true := decide_eq_true (by omega)
    have adx := add_at xb 1
    have c2 := HX4.out.cell (hdV_p gok.out.p (j := j) j32)
    have c3 := HX4.out.free (1 + j)
    have nx : Hid (nth h.p j = x) := Lib.hid (by rw [← XN.out, HJ.out, nth_p ok.out j32])
    have ng : nth G.p j = y := by rw [HE.out]; show nth (h.p.set j y) j = y; rw [nth_set_same (by rw [ok.out.p]; exact j32)]
    have xb2 := xor_u8 y by_ yl hb
    have xbk : y ^^^ by_ = x := by rw [← YN.out, xor_back]
    rw [ng] at c2
    rw [xbk] at xb2
    have NG := Lib.hid ng
    clear ng xbk
    have E : Hid ((hdV G).set (1 + j) (.int .u8 (x : Nat)) = hdV h) := Lib.hid (by
      rw [set_p gok.out.p j32, HE.out]
      show hdV { h with p := (h.p.set j y).set j x } = hdV h
      rw [List.set_set, ← nx.out, set_self_nth (by rw [ok.out.p]; exact j32)])
    have R5 : Hid (Ro (w4.setCell ⟨xb, 1 + j, none⟩ (.int .u8 (x : Nat))) w.heap.size 26 (hdV h)) := Lib.hid (R4.out.other (by have := NE.out; omega) _)
    have X5 : Hid (Ro (w4.setCell ⟨xb, 1 + j, none⟩ (.int .u8 (x : Nat))) xb 26 (hdV h)) := Lib.hid (by have q := HX4.out.set (1 + j) (.int .u8 (x : Nat)); rwa [E.out] at q)
    have B5 : Hid (Below w.heap.size w (w4.setCell ⟨xb, 1 + j, none⟩ (.int .u8 (x : Nat)))) := Lib.hid (B4.out.setCell (by have := NE.out; show w.heap.size ≤ xb; omega) _)
    have EH := fun u => eq_hd ok.out ok.out u
    rw [decide_eq_true rfl] at EH
    go_wp2_with (first | (refine wpList_load_ro rfl (.tmp 9) rfl rfl rowHd X5.out ll.out ?_) | (refine wpList_load_ro rfl (.tmp 3) rfl rfl rowHd R5.out ll.out ?_))
    refine (FIN.out _ B5.out).mono ?_
    rintro e w9 ⟨rfl, hb9⟩
    have B9 := Lib.hid hb9
    clear hb9
    go_wp2_with fail
    go_ret
    exact ⟨rfl, B9.out⟩
  · obtain ⟨j, hj⟩ : ∃ j, j = k - 36 := ⟨_, rfl⟩
    rw [← hj] at e
    have HE := Lib.hid e
    have HJ : Hid (k = j + 36) := Lib.hid (by omega)
    have j32 : j < 32 := by omega
    have z6 : (k : Int) - 36 = (j : Int) := by omega
    clear e hj
    have d4 : decide ((k : Int) < 4) = false := decide_eq_false (by omega)
    have d36 : decide ((k : Int) < 36) = false := decide_eq_false (by omega)
    have d68 : decide ((k : Int) < 68) = true := decide_eq_true (by omega)
    have adx := add_at xb 33
    have c2 := HX4.out.cell (hdV_r gok.out.p gok.out.r (j := j) j32)
    have c3 := HX4.out.free (33 + j)
    have nx : Hid (nth h.r j = x) := Lib.hid (by rw [← XN.out, HJ.out, nth_r ok.out j32])
    have ng : nth G.r j = y := by rw [HE.out]; show nth (h.r.set j y) j = y; rw [nth_set_same (by rw [ok.out.r]; exact j32)]
    have xb2 := xor_u8 y by_ yl hb
    have xbk : y ^^^ by_ = x := by rw [← YN.out, xor_back]
    rw [ng] at c2
    rw [xbk] at xb2
    have NG := Lib.hid ng
    clear ng xbk
    have E : Hid ((hdV G).set (33 + j) (.int .u8 (x : Nat)) = hdV h) := Lib.hid (by
      rw [set_r gok.out.p gok.out.r j32, HE.out]
      show hdV { h with r := (h.r.set j y).set j x } = hdV h
      rw [List.set_set, ← nx.out, set_self_nth (by rw [ok.out.r]; exact j32)])
    have R5 : Hid (Ro (w4.setCell ⟨xb, 33 + j, none⟩ (.int .u8 (x : Nat))) w.heap.size 26 (hdV h)) := Lib.hid (R4.out.other (by have := NE.out; omega) _)
    have X5 : Hid (Ro (w4.setCell ⟨xb, 33 + j, none⟩ (.int .u8 (x : Nat))) xb 26 (hdV h)) := Lib.hid (by have q := HX4.out.set (33 + j) (.int .u8 (x : Nat)); rwa [E.out] at q)
    have B5 : Hid (Below w.heap.size w (w4.setCell ⟨xb, 33 + j, none⟩ (.int .u8 (x : Nat)))) := Lib.hid (B4.out.setCell (by have := NE.out; show w.heap.size ≤ xb; omega) _)
    have EH := fun u => eq_hd ok.out ok.out u
    rw [decide_eq_true rfl] at EH
    go_wp2_with (first | (refine wpList_load_ro rfl (.tmp 9) rfl rfl rowHd X5.out ll.out ?_) | (refine wpList_load_ro rfl (.tmp 3) rfl rfl rowHd R5.out ll.out ?_))
    refine (FIN.out _ B5.out).mono ?_
    rintro e w9 ⟨rfl, hb9⟩
    have B9 := Lib.hid hb9
    clear hb9
    go_wp2_with fail
    go_ret
    exact ⟨rfl, B9.out⟩
  · have HE := Lib.hid e
    clear e
    have d4 : decide ((k : Int) < 4) = false := decide_eq_false (by omega)
    have d36 : decide ((k : Int) < 36) = false := decide_eq_false (by omega)
    have d68 : decide ((k : Int) < 68) = false := decide_eq_false (by omega)
    have d72 : decide ((k : Int) < 72) = true := decide_eq_true (by omega)
    have c1 := R4.out.cell (hdV_no ok.out (k := 1) (by decide))
    have c2 := HX4.out.cell (hdV_no gok.out (k := 1) (by decide))
    have c3 := HX4.out.free 65
    simp only [noN, poN, List.getD_cons_zero, List.getD_cons_succ] at c1 c2
    have E : Hid ((hdV G).set (65) (.int .u32 (h.t : Nat)) = hdV h) := Lib.hid (by
      have q := set_no gok.out.p gok.out.r (k := 1) (by decide) h.t
      simp only [poN, List.getD_cons_zero, List.getD_cons_succ] at q
      rw [q, HE.out]
      rfl)
    have R5 : Hid (Ro (w4.setCell ⟨xb, 65, none⟩ (.int .u32 (h.t : Nat))) w.heap.size 26 (hdV h)) := Lib.hid (R4.out.other (by have := NE.out; omega) _)
    have X5 : Hid (Ro (w4.setCell ⟨xb, 65, none⟩ (.int .u32 (h.t : Nat))) xb 26 (hdV h)) := Lib.hid (by have q := HX4.out.set (65) (.int .u32 (h.t : Nat)); rwa [E.out] at q)
    have B5 : Hid (Below w.heap.size w (w4.setCell ⟨xb, 65, none⟩ (.int .u32 (h.t : Nat)))) := Lib.hid (B4.out.setCell (by have := NE.out; show w.heap.size ≤ xb; omega) _)
    have EH := fun u => eq_hd ok.out ok.out u
    rw [decide_eq_true rfl] at EH
    go_wp2_with (first | (refine wpList_load_ro rfl (.tmp 9) rfl rfl rowHd X5.out ll.out ?_) | (refine wpList_load_ro rfl (.tmp 3) rfl rfl rowHd R5.out ll.out ?_))
    refine (FIN.out _ B5.out).mono ?_
    rintro e w9 ⟨rfl, hb9⟩
    have B9 := Lib.hid hb9
    clear hb9
    go_wp2_with fail
    go_ret
    exact ⟨rfl, B9.out⟩
  · have HE := Lib.hid e
    clear e
    have d4 : decide ((k : Int) < 4) = false := decide_eq_false (by omega)
    have d36 : decide ((k : Int) < 36) = false := decide_eq_false (by omega)
    have d68 : decide ((k : Int) < 68) = false := decide_eq_false (by omega)
    have d72 : decide ((k : Int) < 72) = false := decide_eq_false (by omega)
    have d76 : decide ((k : Int) < 76) = true := decide_eq_true (by omega)
    have c1 := R4.out.cell (hdV_no ok.out (k := 2) (by decide))
    have c2 := HX4.out.cell (hdV_no gok.out (k := 2) (by decide))
    have c3 := HX4.out.free 66
    simp only [noN, poN, List.getD_cons_zero, List.getD_cons_succ] at c1 c2
    have E : Hid ((hdV G).set (66) (.int .u32 (h.b : Nat)) = hdV h) := Lib.hid (by
      have q := set_no gok.out.p gok.out.r (k := 2) (by decide) h.b
      simp only [poN, List.getD_cons_zero, List.getD_cons_succ] at q
      rw [q, HE.out]
      rfl)
    have R5 : Hid (Ro (w4.setCell ⟨xb, 66, none⟩ (.int .u32 (h.b : Nat))) w.heap.size 26 (hdV h)) := Lib.hid (R4.out.other (by have := NE.out; omega) _)
    have X5 : Hid (Ro (w4.setCell ⟨xb, 66, none⟩ (.int .u32 (h.b : Nat))) xb 26 (hdV h)) := Lib.hid (by have q := HX4.out.set (66) (.int .u32 (h.b : Nat)); rwa [E.out] at q)
    have B5 : Hid (Below w.heap.size w (w4.setCell ⟨xb, 66, none⟩ (.int .u32 (h.b : Nat)))) := Lib.hid (B4.out.setCell (by have := NE.out; show w.heap.size ≤ xb; omega) _)
    have EH := fun u => eq_hd ok.out ok.out u
    rw [decide_eq_true rfl] at EH
    go_wp2_with (first | (refine wpList_load_ro rfl (.tmp 9) rfl rfl rowHd X5.out ll.out ?_) | (refine wpList_load_ro rfl (.tmp 3) rfl rfl rowHd R5.out ll.out ?_))
    refine (FIN.out _ B5.out).mono ?_
    rintro e w9 ⟨rfl, hb9⟩
    have B9 := Lib.hid hb9
    clear hb9
    go_wp2_with fail
    go_ret
    exact ⟨rfl, B9.out⟩
  · have HE := Lib.hid e
    clear e
    have d4 : decide ((k : Int) < 4) = false := decide_eq_false (by omega)
    have d36 : decide ((k : Int) < 36) = false := decide_eq_false (by omega)
    have d68 : decide ((k : Int) < 68) = false := decide_eq_false (by omega)
    have d72 : decide ((k : Int) < 72) = false := decide_eq_false (by omega)
    have d76 : decide ((k : Int) < 76) = false := decide_eq_false (by omega)
    have c1 := R4.out.cell (hdV_no ok.out (k := 3) (by decide))
    have c2 := HX4.out.cell (hdV_no gok.out (k := 3) (by decide))
    have c3 := HX4.out.free 67
    simp only [noN, poN, List.getD_cons_zero, List.getD_cons_succ] at c1 c2
    have E : Hid ((hdV G).set (67) (.int .u32 (h.n : Nat)) = hdV h) := Lib.hid (by
      have q := set_no gok.out.p gok.out.r (k := 3) (by decide) h.n
      simp only [poN, List.getD_cons_zero, List.getD_cons_succ] at q
      rw [q, HE.out]
      rfl)
    have R5 : Hid (Ro (w4.setCell ⟨xb, 67, none⟩ (.int .u32 (h.n : Nat))) w.heap.size 26 (hdV h)) := Lib.hid (R4.out.other (by have := NE.out; omega) _)
    have X5 : Hid (Ro (w4.setCell ⟨xb, 67, none⟩ (.int .u32 (h.n : Nat))) xb 26 (hdV h)) := Lib.hid (by have q := HX4.out.set (67) (.int .u32 (h.n : Nat)); rwa [E.out] at q)
    have B5 : Hid (Below w.heap.size w (w4.setCell ⟨xb, 67, none⟩ (.int .u32 (h.n : Nat)))) := Lib.hid (B4.out.setCell (by have := NE.out; show w.heap.size ≤ xb; omega) _)
    have EH := fun u => eq_hd ok.out ok.out u
    rw [decide_eq_true rfl] at EH
    go_wp2_with (first | (refine wpList_load_ro rfl (.tmp 9) rfl rfl rowHd X5.out ll.out ?_) | (refine wpList_load_ro rfl (.tmp 3) rfl rfl rowHd R5.out ll.out ?_))
    refine (FIN.out _ B5.out).mono ?_
    rintro e w9 ⟨rfl, hb9⟩
    have B9 := Lib.hid hb9
    clear hb9
    go_wp2_with fail
    go_ret
    exact ⟨rfl, B9.out⟩
end Go.Proofs.YtkocbkckfkbmhaaDoor
