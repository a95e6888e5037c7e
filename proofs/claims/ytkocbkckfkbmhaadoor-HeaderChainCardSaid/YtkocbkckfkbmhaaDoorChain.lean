/- HeaderChain: of headers that were put one on the other, up to one that was not, just those are linked. No condition but that the tables lie as laid. -/
import Derived.Test.YtkocbkckfkbmhaaDoorChainL
import Derived.Outline
namespace Go.Proofs.YtkocbkckfkbmhaaDoor
open Go.RowKit

set_option maxRecDepth 100000 in
set_option maxHeartbeats 8000000 in
theorem chain_law {A : Option Addr} {n c odd at_ by_ : Nat} {l : List Hd} {w : World} (_ : n ≤ c) (_ : c ≤ 9223372036854775807) (hl : Hs w A n l) (ho : odd < 256) (ha : at_ < 256) (hb : by_ < 256) (hLd : Laid w) :
    Calls Tryd.prog 7 #[.slice A n c, .int .u8 (odd : Nat), .int .u8 (at_ : Nat), .int .u8 (by_ : Nat)] w fun e w' => e = .returned (.bool true) ∧ Below w.heap.size w w' := by
  have HD := Lib.hid hLd
  have Hl := Lib.hid hl
  clear hLd hl
  have fin : ∀ w1, Below w.heap.size w w1 → Calls Tryd.prog 11 #[] w1 fun e w' => e = .returned (.bool true) ∧ Below w.heap.size w w' := fun w1 b => (works_any w1 (HD.out.later HD.out.lt b)).mono fun e w' ⟨h1, h2⟩ => ⟨h1, b.trans (h2.mono b.size)⟩
  have FIN := Lib.hid fin
  clear fin
  go_enter Tryd.func7, Tryd.ntmps7
  by_cases hn : 100 < n
  · have t0 : decide ((100 : Int) < (n : Int)) = true := decide_eq_true (by omega)
    go_wp2_with fail
    refine (FIN.out _ (Below.refl _ _)).mono ?_
    rintro e w1 ⟨rfl, hb⟩
    have HB := Lib.hid hb
    clear hb
    go_wp2_with fail
    go_ret
    exact ⟨rfl, HB.out⟩
  have t0 : decide ((100 : Int) < (n : Int)) = false := decide_eq_false (by omega)
  have O0 := Lib.hid (show OwnH w (.slice (some ⟨w.heap.size, 0, none⟩) 0 0) 0 [] (w.alloc (.cells #[] 26)) from ⟨World.ownsRow_made w #[] 0 (Nat.le_refl _) (by unfold maxLen; omega) rfl, okAll_nil, (Below.refl _ _).alloc (Nat.le_refl _) _⟩)
  have H0 := Lib.hid (Hl.out.later ((Below.refl w.heap.size w).alloc (Nat.le_refl _) (.cells #[] 26)))
  go_wp2_with (at_builtin; refine wpList_appHs rfl (.tmp 16) (.tmp 17) rfl rfl O0.out rfl H0.out (by omega) ?_)
  intro A1 c1 w1 hc1 O1
  have I1 : Hid (Hs w1 A1 n l ∧ (0 < n → ∃ g R, A1 = some ⟨g, 0, none⟩ ∧ RowZ w g n l R w1) ∧ Below w.heap.size w w1) := Lib.hid ⟨O1.reads, fun hp => by
    obtain ⟨g, cap, hv, _⟩ := O1.row.form hp
    injection hv with e1 e2 e3
    subst e1
    obtain ⟨R, hR⟩ := O1.rowZ
    exact ⟨g, R, rfl, hR⟩, O1.bel⟩
  clear O0 H0 O1
  go_wp2_with fail
  go_loopw [10] (fun i wr => ∃ (k : Nat) (m : List Hd), 1 ≤ k ∧ (k ≤ n ∨ k = 1) ∧ i = .int .i64 (k : Nat) ∧ LinkedTo m k ∧ Hs wr A1 n m ∧ (0 < n → ∃ g R, A1 = some ⟨g, 0, none⟩ ∧ RowZ w g n m R wr) ∧ Below w.heap.size w wr) (fun i _ => n - (intOf i).toNat)
  case atStart => exact ⟨1, l, Nat.le_refl _, .inr rfl, rfl, fun j h1 h2 => by omega, I1.out.1, I1.out.2.1, I1.out.2.2⟩
  case round =>
    clear I1
    obtain ⟨k, m, hk1, hk, rfl, hlk, hhs, hrz, hbl⟩ := hrel
    have LK := Lib.hid hlk
    have HH := Lib.hid hhs
    have RZ := Lib.hid hrz
    have HB := Lib.hid hbl
    clear hlk hhs hrz hbl
    by_cases hlt : k < n
    · obtain ⟨g, R, rfl, Z⟩ := RZ.out (by omega)
      obtain ⟨j, rfl⟩ : ∃ j, k = j + 1 := ⟨k - 1, by omega⟩
      have HZ := Lib.hid Z
      have R0 := Lib.hid ((Z.hs.at_ (k := j) (by omega)).2)
      have ok0 := Lib.hid (nthH_ok Z.ok j)
      have ll := Lib.hid (hdV_len ok0.out)
      have ML := Lib.hid Z.len
      have ad : ∀ o i, (⟨g, o, none⟩ : Addr).add i = ⟨g, o + i, none⟩ := add_at g
      have y1 : IntKind.i64.wrap (((j + 1 : Nat) : Int) - 1) = ((j : Nat) : Int) := by rw [IntWalk.i64_in _ (by omega)]; omega
      obtain ⟨h, hh⟩ : ∃ h, nthH m j = h := ⟨_, rfl⟩
      rw [hh] at R0 ok0 ll
      rw [Nat.zero_add] at R0
      have HHh := Lib.hid hh
      clear Z hh RZ
      go_wp2_with (refine wpList_load_part rfl (.tmp 30) rfl rfl rowHd R0.out ll.out ?_)
      refine (id_any ok0.out _ (HD.out.later HD.out.lt HB.out)).mono ?_
      rintro e w2 ⟨rfl, hb2⟩
      have Z2 := Lib.hid (HZ.out.later hb2)
      clear hb2 HZ R0
      have I32 := Lib.hid (idS_len h)
      have IB := Lib.hid (idS_byt h)
      obtain ⟨I, hI⟩ : ∃ I, idS h = I := ⟨_, rfl⟩
      rw [hI] at I32 IB ⊢
      have HI := Lib.hid hI
      clear hI
      go_wp2_with (refine wpList_store_part rfl (.tmp 34) (.tmp 32) rfl rfl rfl row32 Z2.out.row (by rw [List.length_append, hsV_len Z2.out.ok, Z2.out.len]; omega) (by rw [vals_length]; exact I32.out) (vals_one _) ?_)
      intro w3 R3 g3
      have Z3 := Lib.hid (Z2.out.setP (k := j + 1) hlt I32.out IB.out R3 g3)
      clear R3 g3
      have LN := linkedTo_set LK.out (by omega) (by rw [ML.out]; exact hlt)
      rw [show j + 1 - 1 = j from rfl, HHh.out, HI.out] at LN
      have LN2 := Lib.hid LN
      clear LN
      go_wp2_with fail
      exact ⟨⟨j + 1 + 1, _, by omega, by omega, by go_num, LN2.out, Z3.out.hs, fun _ => ⟨g, R, rfl, Z3.out⟩, Z3.out.bel⟩, by simp [intOf]; omega⟩
    · have LA : Hid (LinkedTo m m.length) := Lib.hid (fun j a b => LK.out j a (by have := HH.out.len; omega))
      have NL := HH.out.len
      have CL := linked_any (c := c1) wr (HD.out.later HD.out.lt HB.out) (by omega) HH.out
      rw [linkN_all LA.out, NL] at CL
      have HCL := Lib.hid CL
      have HNL := Lib.hid NL
      clear CL NL LK
      go_wp2_with fail
      refine HCL.out.mono ?_
      rintro e w4 ⟨rfl, hb4⟩
      have B4 := Lib.hid (HB.out.trans (hb4.mono HB.out.size))
      have H4 := Lib.hid (HH.out.later hb4)
      have RZ4 : Hid (0 < n → ∃ g R, A1 = some ⟨g, 0, none⟩ ∧ RowZ w g n m R w4) := Lib.hid (fun hp => by
        obtain ⟨g, R, e, Z⟩ := RZ.out hp
        exact ⟨g, R, e, Z.later hb4⟩)
      clear hb4 HCL HB HH RZ
      by_cases hq : odd < 1 ∨ n ≤ odd ∨ by_ = 0
      · clear RZ4 H4 LA HNL
        by_cases a1 : odd < 1
        · have q1 : decide ((odd : Int) < 1) = true := decide_eq_true (by omega)
          go_wp2_with fail
          refine (FIN.out _ B4.out).mono ?_
          rintro e w9 ⟨rfl, hb9⟩
          have B9 := Lib.hid hb9
          clear hb9
          go_wp2_with fail
          go_ret
          exact ⟨rfl, B9.out⟩
        have q1 : decide ((odd : Int) < 1) = false := decide_eq_false (by omega)
        by_cases a2 : n ≤ odd
        · have q2 : decide ((n : Int) ≤ (odd : Int)) = true := decide_eq_true (by omega)
          go_wp2_with fail
          refine (FIN.out _ B4.out).mono ?_
          rintro e w9 ⟨rfl, hb9⟩
          have B9 := Lib.hid hb9
          clear hb9
          go_wp2_with fail
          go_ret
          exact ⟨rfl, B9.out⟩
        · have q2 : decide ((n : Int) ≤ (odd : Int)) = false := decide_eq_false (by omega)
          have q3 : ((by_ : Int) == 0) = true := by rw [beq_iff_eq]; omega
          go_wp2_with fail
          refine (FIN.out _ B4.out).mono ?_
          rintro e w9 ⟨rfl, hb9⟩
          have B9 := Lib.hid hb9
          clear hb9
          go_wp2_with fail
          go_ret
          exact ⟨rfl, B9.out⟩
      · have q1 : decide ((odd : Int) < 1) = false := decide_eq_false (by omega)
        have q2 : decide ((n : Int) ≤ (odd : Int)) = false := decide_eq_false (by omega)
        have q3 : ((by_ : Int) == 0) = false := by rw [beq_eq_false_iff_ne]; omega
        obtain ⟨g, R, rfl, Z⟩ := RZ4.out (by omega)
        have HZ := Lib.hid Z
        obtain ⟨r, hr⟩ : ∃ r, at_ % 32 = r := ⟨_, rfl⟩
        have r32 : r < 32 := by omega
        have z2 : (at_ : Int) % 32 = (r : Int) := by omega
        have on : odd < n := by omega
        have cp := Z.cellP on r32
        have fp := Z.row.free (odd * 68 + 1 + r)
        have oko := Lib.hid (nthH_ok Z.ok odd)
        have xl := nth_lt oko.out.pb r
        have xo := xor_u8 (nth (nthH m odd).p r) by_ xl hb
        have yl := xor_lt xl hb
        have ne : Hid (nth (nthH m odd).p r ^^^ by_ ≠ nth (nthH m odd).p r) := Lib.hid (fun e => by have := xor_same.1 e; omega)
        obtain ⟨x, hx⟩ : ∃ x, nth (nthH m odd).p r = x := ⟨_, rfl⟩
        rw [hx] at cp xo yl ne xl
        have HX := Lib.hid hx
        obtain ⟨y, hy⟩ : ∃ y, x ^^^ by_ = y := ⟨_, rfl⟩
        rw [hy] at xo yl ne
        have ad : ∀ o i, (⟨g, o, none⟩ : Addr).add i = ⟨g, o + i, none⟩ := add_at g
        clear hx hy Z RZ4 hr
        go_wp2_with fail
        go_region
        have bd : Below (w4.setCell ⟨g, odd * 68 + 1 + r, none⟩ (.int .u8 (y : Int))).heap.size (w4.setCell ⟨g, odd * 68 + 1 + r, none⟩ (.int .u8 (y : Int))) ((w4.setCell ⟨g, odd * 68 + 1 + r, none⟩ (.int .u8 (y : Int))).drew) := (Below.refl _ _).drew
        have Z5 := Lib.hid ((HZ.out.setB on r32 yl).later bd)
        have LT := links_turned (k := odd) (r := r) (y := y) LA.out (by omega) (by rw [HNL.out]; exact on) (by rw [oko.out.p]; exact r32) (by rw [HX.out]; exact ne.out)
        have LL := links_left (k := odd) (r := r) (y := y) LA.out (by rw [HNL.out]; exact on)
        have C5 := Lib.hid (linked_any (c := c1) _ (HD.out.later HD.out.lt Z5.out.bel) (by omega) Z5.out.hs)
        have C6 : Hid (∀ w6, Below w.heap.size w w6 → Hs w6 (some ⟨g, 0, none⟩) n (m.set odd { nthH m odd with p := (nthH m odd).p.set r y }) → Calls Tryd.prog 23 #[.slice (some ⟨g, 0, none⟩) odd c1] w6 fun e w' => e = .returned (.int .i64 (odd : Nat)) ∧ Below w6.heap.size w6 w') := Lib.hid (fun w6 b hs => by
          have q := linked_any (c := c1) w6 (HD.out.later HD.out.lt b) (by omega) (hs.left (k := odd) (by omega))
          rwa [LL] at q)
        have C5' := C5.out
        rw [LT] at C5'
        have C7 := Lib.hid C5'
        have oc : odd ≤ c1 := by omega
        clear bd LT LL C5 C5' cp fp HZ
        go_wp2_with fail
        refine C7.out.mono ?_
        rintro e w6 ⟨rfl, hb6⟩
        have B6 := Lib.hid (Z5.out.bel.trans (hb6.mono Z5.out.bel.size))
        have H6 := Lib.hid (Z5.out.hs.later hb6)
        clear hb6 C7 Z5
        go_wp2_with fail
        refine (C6.out _ B6.out H6.out).mono ?_
        rintro e w7 ⟨rfl, hb7⟩
        have B7 := Lib.hid (B6.out.trans (hb7.mono B6.out.size))
        clear hb7 C6 H6
        go_wp2_with fail
        refine (FIN.out _ B7.out).mono ?_
        rintro e w9 ⟨rfl, hb9⟩
        have B9 := Lib.hid hb9
        clear hb9
        go_wp2_with fail
        go_ret
        exact ⟨rfl, B9.out⟩
end Go.Proofs.YtkocbkckfkbmhaaDoor
