/- OctetWords: what is written as letters is read again; what is read is written as it stood there. No condition. -/
import Derived.Test.YtcnmplkljpkheaaLetters
namespace Go.Proofs.Ytcnmplkljpkheaa
open Go.ChangeShapes Go.WideShapes Go.ChangeAt Go.RowKit

theorem letter_of {c x : Nat} (hc : c < 256) (h : hokB c = true) (e : hv c = x) : letterN x = c := (letter_is hc (by rw [← e]; exact hv_lt h)).2 ⟨h, e⟩
theorem hex_unh {M : List Nat} (hb : AllB M) (ok : UnhOk M) : hexL (unhL M) = M := by
  rw [unhL_ok ok]
  have key : ∀ k, 2 * k ≤ M.length → hexL (unh M k) = M.take (2 * k) := by
    intro k
    induction k with
    | zero => intro _; rfl
    | succ k ih =>
      intro hk
      have h1 := ok.2 (2 * k) (by omega)
      have h2 := ok.2 (2 * k + 1) (by omega)
      have b1 := nth_lt hb (2 * k)
      have b2 := nth_lt hb (2 * k + 1)
      have l1 := hv_lt h1
      have l2 := hv_lt h2
      rw [unh, hexL_app, ih (by omega), hexL, hexL, show (16 * hv (nth M (2 * k)) + hv (nth M (2 * k + 1))) / 16 = hv (nth M (2 * k)) by omega, show (16 * hv (nth M (2 * k)) + hv (nth M (2 * k + 1))) % 16 = hv (nth M (2 * k + 1)) by omega,
        letter_of b1 h1 rfl, letter_of b2 h2 rfl, show 2 * (k + 1) = 2 * k + 1 + 1 by omega, take_snoc' M (2 * k + 1) (by omega), take_snoc' M (2 * k) (by omega), List.append_assoc]
      rfl
  rw [key _ (by omega), show 2 * (M.length / 2) = M.length by have := ok.1; omega, List.take_of_length_le (Nat.le_refl _)]

set_option maxRecDepth 100000 in
set_option maxHeartbeats 16000000 in
theorem words_any {A : Option Addr} {n c : Nat} {L : List Nat} {w : World} (_hnc : n ≤ c) (hn63 : n ≤ 9223372036854775807) (hL : Bs w A n L) (s : ByteArray) (hs63 : s.size ≤ 9223372036854775807) (v : Value) (hvv : ∃ H, H32 H ∧ v = hashV H) :
    Calls Try.prog 7 #[.slice A n c, .string s, v] w (YesL w) := by
  obtain ⟨H, hH, rfl⟩ := hvv
  have HH := Lib.hid hH
  have R0 := Lib.hid (Row.new w 42 H)
  have B0 : Hid (Below w.heap.size w (w.alloc (.cells (vals H).toArray 42))) := Lib.hid ((Below.refl _ _).alloc (Nat.le_refl _) _)
  have HL := Lib.hid (hL.later ((Below.refl _ _).alloc (Nat.le_refl _) (.cells (vals H).toArray 42)))
  clear hL hH
  by_cases hv : 16384 < n
  · have V := Lib.hid (fun w => vastL_yes (A := A) (c := c) hv hn63 w)
    go_enter Try.func7, Try.ntmps7
    unfold hashV
    go_wp2_with fail
    refine (V.out _).mono ?_
    rintro e w1 ⟨rfl, rfl⟩
    go_wp2_with fail
    refine (works_any _).mono ?_
    rintro e w1 ⟨rfl, hb⟩
    have B := Lib.hid (B0.out.trans (hb.mono B0.out.size))
    clear hb
    go_wp2_with fail
    go_ret
    exact ⟨rfl, B.out⟩
  · have V := Lib.hid (fun w => vastL_no (A := A) (n := n) (c := c) (by omega) w)
    by_cases hs : 16384 < s.size
    · have t1 : decide ((16384 : Int) < (s.size : Int)) = true := decide_eq_true (by omega)
      go_enter Try.func7, Try.ntmps7
      unfold hashV
      go_wp2_with fail
      refine (V.out _).mono ?_
      rintro e w1 ⟨rfl, rfl⟩
      go_wp2_with fail
      refine (works_any _).mono ?_
      rintro e w1 ⟨rfl, hb⟩
      have B := Lib.hid (B0.out.trans (hb.mono B0.out.size))
      clear hb
      go_wp2_with fail
      go_ret
      exact ⟨rfl, B.out⟩
    · have t1 : decide ((16384 : Int) < (s.size : Int)) = false := decide_eq_false (by omega)
      have hn : n ≤ 16384 := by omega
      have hs' : s.size ≤ 16384 := by omega
      clear hv hn63 hs hs63
      have CT : Hid (∀ w, Calls Try.prog 28 #[.agg (vals H).toArray] w fun e w' => e = .returned (.string (strB (hexL H.reverse))) ∧ Below w.heap.size w w') := Lib.hid fun w => turned_any HH.out w
      go_enter Try.func7, Try.ntmps7
      unfold hashV
      go_wp2_with fail
      refine (V.out _).mono ?_
      rintro e w1 ⟨rfl, rfl⟩
      go_wp2_with fail
      refine (hex_any _ (by omega) HL.out).mono ?_
      rintro e w1 ⟨rfl, hb⟩
      have B1 := Lib.hid (B0.out.trans (hb.mono B0.out.size))
      have L1 := Lib.hid (HL.out.later hb)
      have R1 := Lib.hid (R0.out.later hb)
      clear hb
      obtain ⟨S1, hS1⟩ : ∃ S, strB (hexL L) = S := ⟨_, rfl⟩
      have e1 : strL S1 = hexL L := by rw [← hS1]; exact strL_strB (hexL_byt HL.out.byt)
      have z1 : S1.size ≤ 549755813888 := by rw [← hS1, strB_size, hexL_length, HL.out.len]; omega
      have E1 := Lib.hid e1
      have Z1 := Lib.hid z1
      rw [hS1]
      clear e1 z1 hS1
      go_wp2_with fail
      refine (unhex_any S1 _ Z1.out).mono ?_
      rintro e w2 ⟨X, xn, xc, rfl, _, OX⟩
      rw [E1.out, unhL_hex HL.out.byt] at OX
      rw [E1.out, show unhE (hexL L) = 0 from if_pos (hex_ok HL.out.byt)]
      obtain rfl : xn = n := by rw [← OX.len, HL.out.len]
      have B2 := Lib.hid (B1.out.trans (OX.bel.mono B1.out.size))
      have L2 := Lib.hid (L1.out.later OX.bel)
      have R2 := Lib.hid (R1.out.later OX.bel)
      have X2 := Lib.hid OX.reads
      clear OX
      go_wp2_with (refine BigFrame.wpList_want (by rfl) fun K hK => wp_load_agg (.tmp 5) rfl rfl R2.out HH.out.len ?_)
      refine (CT.out _).mono ?_
      rintro e w3 ⟨rfl, hb⟩
      have B3 := Lib.hid (B2.out.trans (hb.mono B2.out.size))
      have L3 := Lib.hid (L2.out.later hb)
      have R3 := Lib.hid (R2.out.later hb)
      have X3 := Lib.hid (X2.out.later hb)
      clear hb
      obtain ⟨S2, hS2⟩ : ∃ S, strB (hexL H.reverse) = S := ⟨_, rfl⟩
      have e2 : strL S2 = hexL H.reverse := by rw [← hS2]; exact strL_strB (hexL_byt HH.out.rev.byt)
      have z2 : S2.size ≤ 549755813888 := by rw [← hS2, strB_size, hexL_length, HH.out.rev.len]; omega
      have E2 := Lib.hid e2
      have Z2 := Lib.hid z2
      rw [hS2]
      clear e2 z2 hS2
      go_wp2_with fail
      refine (unturned_any S2 _ Z2.out).mono ?_
      rintro e w4 ⟨rfl, hb⟩
      rw [E2.out, (unt_hex HH.out).2.1, (unt_hex HH.out).2.2]
      have B4 := Lib.hid (B3.out.trans (hb.mono B3.out.size))
      have L4 := Lib.hid (L3.out.later hb)
      have R4 := Lib.hid (R3.out.later hb)
      have X4 := Lib.hid (X3.out.later hb)
      have Q4 := Lib.hid (Row.new w4 42 (List.replicate 32 0))
      have A4 : Hid (Below w4.heap.size w4 (w4.alloc (.cells (vals (List.replicate 32 0)).toArray 42))) := Lib.hid ((Below.refl _ _).alloc (Nat.le_refl _) _)
      clear hb
      go_wp2_with (refine wpList_store_hash rfl (.tmp 9) (.tmp 33) rfl rfl rfl Q4.out h32zero HH.out.len ?_; intro w5 h1 h2; have S5 := Lib.hid h1; have G5 := Lib.hid h2; clear h1 h2)
      have N5 : Hid (Below w4.heap.size w4 w5) := Lib.hid (A4.out.grown G5.out A4.out.size (fun q e => by cases e; exact Nat.le_refl _))
      have B5 := Lib.hid (B4.out.trans (N5.out.mono B4.out.size))
      have L5 := Lib.hid (L4.out.later N5.out)
      have R5 := Lib.hid (R4.out.later N5.out)
      have X5 := Lib.hid (X4.out.later N5.out)
      refine (same_any _ (by omega) (by omega) X5.out L5.out).mono ?_
      rintro e w6 ⟨rfl, hb⟩
      rw [eqB_yes rfl]
      have B6 := Lib.hid (B5.out.trans (hb.mono B5.out.size))
      have R6 := Lib.hid (R5.out.later hb)
      have S6 := Lib.hid (S5.out.later hb)
      clear hb
      have EQ : ∀ w, (Op.equalIn 10000 42 (.agg (vals H).toArray) (.agg (vals H).toArray)).run Try.prog w = .ok true w := fun w => (eq_hash HH.out.len HH.out.len w).trans (by rw [eqB_yes rfl])
      go_wp2_with (first | (refine BigFrame.wpList_want (by rfl) fun K hK => wp_load_agg (.tmp 9) rfl rfl S6.out HH.out.len ?_) | (refine BigFrame.wpList_want (by rfl) fun K hK => wp_load_agg (.tmp 5) rfl rfl R6.out HH.out.len ?_))
      clear EQ
      have HM : Hid (AllB (strL s)) := Lib.hid (strL_byt s)
      have MS := Lib.hid (strL_length s)
      refine (unhex_any s _ (by omega)).mono ?_
      rintro e w7 ⟨Y, yn, yc, rfl, _, OY⟩
      have B7 := Lib.hid (B6.out.trans (OY.bel.mono B6.out.size))
      have hyn : yn ≤ 16384 := by have h1 := OY.len; have h2 := unhL_le (strL s); have h3 := MS.out; omega
      have Y7 := Lib.hid OY.reads
      clear OY
      have fin : ∀ w8 : World, Below w.heap.size w w8 → Calls Try.prog 9 #[] w8 fun e w' => e = .returned (.bool true) ∧ Below w.heap.size w w' := fun w8 b => (works_any w8).mono fun e w' ⟨h1, h2⟩ => ⟨h1, b.trans (h2.mono b.size)⟩
      have FIN := Lib.hid fin
      clear fin
      by_cases ok : UnhOk (strL s)
      · have hxs := hex_unh HM.out ok
        rw [show unhE (strL s) = 0 from if_pos ok]
        have HXS : Hid (strB (hexL (unhL (strL s))) = s) := Lib.hid (by rw [hxs, strB_strL])
        have OK := Lib.hid ok
        clear ok hxs
        go_wp2_with fail
        refine (hex_any _ (by omega) Y7.out).mono ?_
        rintro e w8 ⟨rfl, hb⟩
        rw [HXS.out]
        have B8 := Lib.hid (B7.out.trans (hb.mono B7.out.size))
        clear hb
        go_wp2_with fail
        refine (unturned_any s _ (by omega)).mono ?_
        rintro e w9 ⟨rfl, hb⟩
        have B9 := Lib.hid (B8.out.trans (hb.mono B8.out.size))
        clear hb
        obtain ⟨M, hM⟩ : ∃ M, untH (strL s) = M := ⟨_, rfl⟩
        have U32 : Hid (H32 M) := Lib.hid (by rw [← hM]; exact untH_32 (strL s))
        have RM : Hid (UntOk (strL s) → M.reverse = unhL (strL s)) := Lib.hid fun ut => by rw [← hM, untH, if_pos ut, List.reverse_reverse]
        rw [hM]
        clear hM
        have Q9 := Lib.hid (Row.new w9 42 (List.replicate 32 0))
        have A9 : Hid (Below w.heap.size w (w9.alloc (.cells (vals (List.replicate 32 0)).toArray 42))) := Lib.hid (B9.out.alloc B9.out.size _)
        by_cases ut : UntOk (strL s)
        · have h64 : s.size = 64 := by rw [← MS.out]; exact ut.2
          have q1 : ((s.size : Int) == 64) = true := by rw [beq_iff_eq]; omega
          have TU : Hid (∀ w, Calls Try.prog 28 #[.agg (vals M).toArray] w fun e w' => e = .returned (.string s) ∧ Below w.heap.size w w') := Lib.hid fun w => by
            have := turned_any U32.out w
            rwa [RM.out ut, HXS.out] at this
          rw [show untE (strL s) = 0 from if_pos ut]
          clear h64 ut
          go_wp2_with (first | (refine BigFrame.wpList_want (by rfl) fun K hK => wp_load_agg (.tmp 13) rfl rfl S10.out U32.out.len ?_) | (refine wpList_store_hash rfl (.tmp 13) (.tmp 68) rfl rfl rfl Q9.out h32zero U32.out.len ?_; intro w10 h1 h2; have S10 := Lib.hid h1; have G10 := Lib.hid h2; clear h1 h2))
          have B10 := Lib.hid (A9.out.grown G10.out A9.out.size (fun q e => by cases e; exact B9.out.size))
          refine (TU.out _).mono ?_
          rintro e w11 ⟨rfl, hb⟩
          have B11 := Lib.hid (B10.out.trans (hb.mono B10.out.size))
          clear hb
          go_wp2_with fail
          refine (FIN.out _ B11.out).mono ?_
          rintro e w12 ⟨rfl, hb⟩
          have B12 := Lib.hid hb
          clear hb
          go_wp2_with fail
          go_ret
          exact ⟨rfl, B12.out⟩
        · rw [show untE (strL s) = 5 from if_neg ut]
          clear ut
          go_wp2_with (refine wpList_store_hash rfl (.tmp 13) (.tmp 68) rfl rfl rfl Q9.out h32zero U32.out.len ?_)
          intro w10 h1 h2
          have G10 := Lib.hid h2
          clear h1 h2
          have B10 := Lib.hid (A9.out.grown G10.out A9.out.size (fun q e => by cases e; exact B9.out.size))
          go_wp2_with fail
          refine (FIN.out _ B10.out).mono ?_
          rintro e w12 ⟨rfl, hb⟩
          have B12 := Lib.hid hb
          clear hb
          go_wp2_with fail
          go_ret
          exact ⟨rfl, B12.out⟩
      · rw [show unhE (strL s) = 5 from if_neg ok]
        have ut : ¬ UntOk (strL s) := fun h => ok h.1
        have UT := Lib.hid ut
        clear ok ut
        go_wp2_with fail
        refine (unturned_any s _ (by omega)).mono ?_
        rintro e w9 ⟨rfl, hb⟩
        have B9 := Lib.hid (B7.out.trans (hb.mono B7.out.size))
        clear hb
        obtain ⟨M, hM⟩ : ∃ M, untH (strL s) = M := ⟨_, rfl⟩
        have U32 : Hid (H32 M) := Lib.hid (by rw [← hM]; exact untH_32 (strL s))
        have RM : Hid (UntOk (strL s) → M.reverse = unhL (strL s)) := Lib.hid fun ut => by rw [← hM, untH, if_pos ut, List.reverse_reverse]
        rw [hM]
        clear hM
        have Q9 := Lib.hid (Row.new w9 42 (List.replicate 32 0))
        have A9 : Hid (Below w.heap.size w (w9.alloc (.cells (vals (List.replicate 32 0)).toArray 42))) := Lib.hid (B9.out.alloc B9.out.size _)
        rw [show untE (strL s) = 5 from if_neg UT.out]
        go_wp2_with (refine wpList_store_hash rfl (.tmp 13) (.tmp 68) rfl rfl rfl Q9.out h32zero U32.out.len ?_)
        intro w10 h1 h2
        have G10 := Lib.hid h2
        clear h1 h2
        have B10 := Lib.hid (A9.out.grown G10.out A9.out.size (fun q e => by cases e; exact B9.out.size))
        go_wp2_with fail
        refine (FIN.out _ B10.out).mono ?_
        rintro e w12 ⟨rfl, hb⟩
        have B12 := Lib.hid hb
        clear hb
        go_wp2_with fail
        go_ret
        exact ⟨rfl, B12.out⟩

theorem words_law {A : Option Addr} {n c : Nat} {L : List Nat} {w : World} (hnc : n ≤ c) (hn63 : n ≤ 9223372036854775807) (hL : Bs w A n L) (s : ByteArray) (hs63 : s.size ≤ 9223372036854775807) (H : List Nat) (hH : H32 H) :
    Calls Try.prog 7 #[.slice A n c, .string s, hashV H] w (YesL w) := words_any hnc hn63 hL s hs63 _ ⟨H, hH, rfl⟩

set_option maxRecDepth 100000 in
theorem octetWords_lifted (os : Os) (started : os.Started) (H : Type) (enc : TypeId × Value → H) :
    ReturnsInHanded {} Try.checked os 7 .any (Rows.octetWordsSpec.pre6 enc Try.prog Try.f7 Rows.octetWordsRow.domain false) (Rows.octetWordsSpec.post enc Try.prog Try.f7 false true false false) := by
  refine returnsInHanded_of_change (C := Try.checked) Try.own started (by kernel_rfl) Try.func7
    (ChangeSpec.witness6 (enc := enc) (C := Try.checked) false ⟨#[], #[.slice none 0 0, .string ⟨#[]⟩, .agg #[.int .u8 0, .int .u8 0, .int .u8 0, .int .u8 0, .int .u8 0, .int .u8 0, .int .u8 0, .int .u8 0, .int .u8 0, .int .u8 0, .int .u8 0, .int .u8 0, .int .u8 0, .int .u8 0, .int .u8 0, .int .u8 0, .int .u8 0, .int .u8 0, .int .u8 0, .int .u8 0, .int .u8 0, .int .u8 0, .int .u8 0, .int .u8 0, .int .u8 0, .int .u8 0, .int .u8 0, .int .u8 0, .int .u8 0, .int .u8 0, .int .u8 0, .int .u8 0]], []⟩ 8 (by kernel_rfl) (by kernel_rfl) (by kernel_rfl) (by kernel_rfl)) ?_
  intro W base args ds gs before hval0 hW hcnd _
  have hval : ∀ (j : Nat) t v, Try.f7.params[j]? = some t → args[j]? = some v → Value.okWide Try.prog W .any base t v := hval0
  have hW' := hW
  obtain ⟨p, q, hA0, hV, rfl, hfz, hnd⟩ := hW
  have hA : DataW.TrodAll enc Try.prog W 0 (fun _ => true) true Try.f7.params.toList args.toList ds p := hA0
  rw [Try.params7] at hA hval
  obtain ⟨v0, vs0, d0, ds0, p0, q0, hargs, rfl, rfl, h0, r0⟩ := trodAll_cons hA
  obtain ⟨v1, vs1, d1, ds1, p1, q1, rfl, rfl, rfl, h1, r1⟩ := trodAll_cons r0
  obtain ⟨v2, vs2, d2, ds2, p2, q2, rfl, rfl, rfl, h2, r2⟩ := trodAll_cons r1
  obtain ⟨rfl, rfl, rfl⟩ := trodAll_nil r2
  obtain rfl : args = #[v0, v1, v2] := by cases args; simp_all
  obtain ⟨rfl, rfl⟩ := trodVars_none hV
  have lt0 : ∀ x ∈ p0, x.block < W.heap.size := by obtain ⟨m, hm⟩ := h0; exact DataW.trod_lt m _ _ _ hm
  have lt1 : ∀ x ∈ p1, x.block < W.heap.size := by obtain ⟨m, hm⟩ := h1; exact DataW.trod_lt m _ _ _ hm
  have lt2 : ∀ x ∈ p2, x.block < W.heap.size := by obtain ⟨m, hm⟩ := h2; exact DataW.trod_lt m _ _ _ hm
  obtain ⟨aA, an, ac, aL, ⟨a1, a2, a3⟩, rfl⟩ := open_bytes (hval 0 22 v0 rfl rfl) h0
  obtain ⟨b, wb, rfl⟩ := open_str (hval 1 9 v1 rfl rfl) h1
  obtain ⟨c, wc, rfl⟩ := open_hash (hval 2 42 v2 rfl rfl) h2
  clear hA0 hval0
  refine (words_law a1 (by omega) a3 b wb c wc).mono fun e W' ⟨he, bel⟩ => ?_
  subst he
  exact ⟨_, rfl, _, _, _, [], _, [], hW', trodAll_mk1 (shut_bool Try.underlying4 _), (trodAll_cons_mk (Below.trod Try.laidOut (by kernel_rfl) (of_decide_eq_true (by kernel_rfl)) h0 bel lt0) (trodAll_cons_mk (Below.trod Try.laidOut (by kernel_rfl) (of_decide_eq_true (by kernel_rfl)) h1 bel lt1) (trodAll_cons_mk (Below.trod Try.laidOut (by kernel_rfl) (of_decide_eq_true (by kernel_rfl)) h2 bel lt2) trodAll_mk0))), rfl, bel.frame _, fun h => by cases h⟩

theorem octetWords_holds : Rows.OctetWordsSaid :=
  OpenClaim.holds_of_wide 7 Try.f7 rfl rfl rfl rfl rfl rfl rfl ⟨rfl, rfl, rfl, rfl, rfl⟩ rfl rfl rfl rfl rfl (by kernel_rfl) Try.func7 (by kernel_rfl)
    (of_decide_eq_true (by kernel_rfl)) (by unfold Func.isWrapper; rw [if_neg (of_decide_eq_false (by kernel_rfl))]; exact ⟨rfl, rfl⟩)
    (fun os started H enc _ => octetWords_lifted os started H enc)

end Go.Proofs.Ytcnmplkljpkheaa
