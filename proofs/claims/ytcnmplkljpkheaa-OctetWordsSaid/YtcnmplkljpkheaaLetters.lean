/- OctetLetters: any bytes as letters, any letters as bytes, and hashes so, turned, are the document's. No condition. -/
import Derived.Test.YtcnmplkljpkheaaWorks
import Derived.Test.YtcnmplkljpkheaaOpen
import Derived.Test.YtcnmplkljpkheaaSeg
namespace Go.Proofs.Ytcnmplkljpkheaa
open Go.ChangeShapes Go.WideShapes Go.ChangeAt Go.RowKit

theorem load_cells {w : World} {b : Nat} {H : List Nat} (h : Row w b 42 H) (hl : H.length = 32) : (loadCellsFrom ⟨b, 0, none⟩ 0 32 #[]).run Try.prog w = .ok (vals H).toArray w := by
  have := run_loadCells_list (P := Try.prog) w ⟨b, 0, none⟩ (vals H) (fun j v hv => by
    obtain ⟨hj, rfl⟩ := vals_get? hv
    have hadd : (⟨b, 0, none⟩ : Addr).add j = ⟨b, j, none⟩ := by unfold Addr.add; split <;> simp_all
    rw [hadd]; exact h.cell hj)
  rw [vals_length, hl] at this
  simpa [loadCells] using this
theorem vastL_no {A : Option Addr} {n c : Nat} (h : n ≤ 16384) (w : World) : Calls Try.prog 8 #[.slice A n c] w fun e w' => e = .returned (.bool false) ∧ w' = w := by
  have := vast_any A n c (by omega) w
  rwa [decide_eq_false (by omega : ¬ 16384 < n)] at this
theorem vastL_yes {A : Option Addr} {n c : Nat} (h : 16384 < n) (hn : n ≤ 9223372036854775807) (w : World) : Calls Try.prog 8 #[.slice A n c] w fun e w' => e = .returned (.bool true) ∧ w' = w := by
  have := vast_any A n c hn w
  rwa [decide_eq_true h] at this
def YesL (w : World) (e : Ending) (w' : World) : Prop := e = .returned (.bool true) ∧ Below w.heap.size w w'
theorem unhL_le (M : List Nat) : (unhL M).length ≤ M.length := by
  unfold unhL
  split
  · rw [unh_length]; omega
  · simp
theorem h32zero : (List.replicate 32 0).length = 32 := by simp

set_option maxRecDepth 100000 in
set_option maxHeartbeats 16000000 in
theorem letters_any {A : Option Addr} {n c : Nat} {L : List Nat} {w : World} (_hnc : n ≤ c) (hn63 : n ≤ 9223372036854775807) (hL : Bs w A n L) (s : ByteArray) (hs63 : s.size ≤ 9223372036854775807) (v : Value) (hvv : ∃ H, H32 H ∧ v = hashV H) :
    Calls Try.prog 6 #[.slice A n c, .string s, v] w (YesL w) := by
  obtain ⟨H, hH, rfl⟩ := hvv
  have HH := Lib.hid hH
  have R0 := Lib.hid (Row.new w 42 H)
  have B0 : Hid (Below w.heap.size w (w.alloc (.cells (vals H).toArray 42))) := Lib.hid ((Below.refl _ _).alloc (Nat.le_refl _) _)
  have HL := Lib.hid (hL.later ((Below.refl _ _).alloc (Nat.le_refl _) (.cells (vals H).toArray 42)))
  clear hL hH
  by_cases hv : 16384 < n
  · have V := Lib.hid (fun w => vastL_yes (A := A) (c := c) hv hn63 w)
    go_enter Try.func6, Try.ntmps6
    unfold hashV
    go_wp2_with fail
    refine (V.out _).mono ?_
    rintro e w1 ⟨rfl, rfl⟩
    go_wp2_with fail
    refine (works_any _).mono ?_
    rintro e w1 ⟨rfl, hb⟩
    have B := Lib.hid (B0.out.trans (hb.mono B0.out.size))
    clear hb
    go_wp2_with fail
    go_ret
    exact ⟨rfl, B.out⟩
  · have V := Lib.hid (fun w => vastL_no (A := A) (n := n) (c := c) (by omega) w)
    by_cases hs : 16384 < s.size
    · have t1 : decide ((16384 : Int) < (s.size : Int)) = true := decide_eq_true (by omega)
      go_enter Try.func6, Try.ntmps6
      unfold hashV
      go_wp2_with fail
      refine (V.out _).mono ?_
      rintro e w1 ⟨rfl, rfl⟩
      go_wp2_with fail
      refine (works_any _).mono ?_
      rintro e w1 ⟨rfl, hb⟩
      have B := Lib.hid (B0.out.trans (hb.mono B0.out.size))
      clear hb
      go_wp2_with fail
      go_ret
      exact ⟨rfl, B.out⟩
    · have t1 : decide ((16384 : Int) < (s.size : Int)) = false := decide_eq_false (by omega)
      have hn : n ≤ 16384 := by omega
      have hs' : s.size ≤ 16384 := by omega
      clear hv hn63 hs hs63
      go_enter Try.func6, Try.ntmps6
      unfold hashV
      go_wp2_with fail
      refine (V.out _).mono ?_
      rintro e w1 ⟨rfl, rfl⟩
      go_wp2_with fail
      refine (unhex_any s _ (by omega)).mono ?_
      rintro e w1 ⟨X, xn, xc, rfl, _, OX⟩
      have B1 := Lib.hid (B0.out.trans (OX.bel.mono B0.out.size))
      have L1 := Lib.hid (HL.out.later OX.bel)
      have R1 := Lib.hid (R0.out.later OX.bel)
      have X1 := Lib.hid OX.reads
      have XN := Lib.hid OX.len
      clear OX
      go_wp2_with fail
      refine (runhex_any s _ (by omega)).mono ?_
      rintro e w2 ⟨Y, yn, yc, rfl, _, OY⟩
      have B2 := Lib.hid (B1.out.trans (OY.bel.mono B1.out.size))
      have L2 := Lib.hid (L1.out.later OY.bel)
      have R2 := Lib.hid (R1.out.later OY.bel)
      have X2 := Lib.hid (X1.out.later OY.bel)
      have Y2 := Lib.hid OY.reads
      obtain rfl : yn = xn := by rw [← OY.len, XN.out]
      clear OY
      go_wp2_with fail
      refine (unturned_any s _ (by omega)).mono ?_
      rintro e w3 ⟨rfl, hb⟩
      have B3 := Lib.hid (B2.out.trans (hb.mono B2.out.size))
      have L3 := Lib.hid (L2.out.later hb)
      have R3 := Lib.hid (R2.out.later hb)
      have X3 := Lib.hid (X2.out.later hb)
      have Y3 := Lib.hid (Y2.out.later hb)
      clear hb
      have U32 := Lib.hid (untH_32 (strL s))
      obtain ⟨U, hU⟩ : ∃ U, untH (strL s) = U := ⟨_, rfl⟩
      obtain ⟨UE, hUE⟩ : ∃ UE, untE (strL s) = UE := ⟨_, rfl⟩
      obtain ⟨XE, hXE⟩ : ∃ XE, unhE (strL s) = XE := ⟨_, rfl⟩
      rw [hU] at U32
      have HU := Lib.hid hU
      have HUE := Lib.hid hUE
      rw [hU, hUE, hXE]
      clear hU hUE hXE
      have Z3 := Lib.hid (Row.new w3 42 (List.replicate 32 0))
      have A3 : Hid (Below w3.heap.size w3 (w3.alloc (.cells (vals (List.replicate 32 0)).toArray 42))) := Lib.hid ((Below.refl _ _).alloc (Nat.le_refl _) _)
      go_wp2_with (refine wpList_store_hash rfl (.tmp 11) (.tmp 36) rfl rfl rfl Z3.out h32zero U32.out.len ?_; intro w4 h1 h2; have S4 := Lib.hid h1; have G4 := Lib.hid h2; clear h1 h2)
      have N4 : Hid (Below w3.heap.size w3 w4) := Lib.hid (A3.out.grown G4.out A3.out.size (fun q e => by cases e; exact Nat.le_refl _))
      refine (runturned_any s _ (by omega)).mono ?_
      rintro e w5 ⟨rfl, hb⟩
      rw [HU.out, HUE.out]
      have N5 := Lib.hid (N4.out.trans (hb.mono N4.out.size))
      have S5 := Lib.hid (S4.out.later hb)
      have Z5 := Lib.hid (Row.new w5 42 (List.replicate 32 0))
      have A5 : Hid (Below w5.heap.size w5 (w5.alloc (.cells (vals (List.replicate 32 0)).toArray 42))) := Lib.hid ((Below.refl _ _).alloc (Nat.le_refl _) _)
      clear hb
      go_wp2_with (refine wpList_store_hash rfl (.tmp 13) (.tmp 41) rfl rfl rfl Z5.out h32zero U32.out.len ?_; intro w6 h1 h2; have T6 := Lib.hid h1; have G6 := Lib.hid h2; clear h1 h2)
      have N6 : Hid (Below w5.heap.size w5 w6) := Lib.hid (A5.out.grown G6.out A5.out.size (fun q e => by cases e; exact Nat.le_refl _))
      have B6 := Lib.hid ((B3.out.trans (N5.out.mono B3.out.size)).trans (N6.out.mono (Nat.le_trans B3.out.size N5.out.size)))
      have L6 := Lib.hid ((L3.out.later N5.out).later N6.out)
      have R6 := Lib.hid ((R3.out.later N5.out).later N6.out)
      have X6 := Lib.hid ((X3.out.later N5.out).later N6.out)
      have Y6 := Lib.hid ((Y3.out.later N5.out).later N6.out)
      have S6 := Lib.hid (S5.out.later N6.out)
      have hyn : yn ≤ 16384 := by have := XN.out; have := unhL_le (strL s); rw [strL_length] at this; omega
      have CT : Hid (∀ w, Calls Try.prog 28 #[.agg (vals H).toArray] w fun e w' => e = .returned (.string (strB (hexL H.reverse))) ∧ Below w.heap.size w w') := Lib.hid fun w => turned_any HH.out w
      have CR : Hid (∀ w, Calls Try.prog 29 #[.agg (vals H).toArray] w fun e w' => e = .returned (.string (strB (hexL H.reverse))) ∧ Below w.heap.size w w') := Lib.hid fun w => rturned_any HH.out w
      have EQ : ∀ w, (Op.equalIn 10000 42 (.agg (vals U).toArray) (.agg (vals U).toArray)).run Try.prog w = .ok true w := fun w => (eq_hash U32.out.len U32.out.len w).trans (by rw [eqB_yes rfl])
      refine wp_region_seg (W := w6) (by kernel_rfl) fun wa ga => ?_
      refine wpK_seg 0 1 (f := 36) (by kernel_rfl) (fun _ _ _ _ _ h => h) (by kernel_rfl) (by kernel_rfl) (by kernel_rfl) ga ?_
      apply Exists.intro
      refine ⟨?_, ?_⟩
      · intro wg hg
        simp only [List.drop_zero, List.take_succ_cons, List.take_zero]
        repeat (go_big_quiet_step (fail))
        refine wpQuiet_nil ?_
        exact rfl
      refine wpK_seg 3 1 (f := 35) (by kernel_rfl) (fun _ _ _ _ _ h => h) (by kernel_rfl) (by kernel_rfl) (by kernel_rfl) ga ?_
      apply Exists.intro
      refine ⟨?_, ?_⟩
      · intro wg hg
        simp only [List.drop_succ_cons, List.drop_zero, List.take_succ_cons, List.take_zero]
        repeat (go_big_quiet_step (fail))
        refine wpQuiet_nil ?_
        exact rfl
      refine wpK_call (f := 34) (i := 1) (by kernel_rfl) rfl rfl ga ?_
      intro wb gb K hK
      go_simp
      refine (copied_any _ (by omega) (L6.out.later gb)).mono ?_
      rintro e wn ⟨A', m', c', rfl, _, O⟩
      refine hK _ _ O.bel ?_
      have CK := Lib.hid O.reads
      have hm' : m' ≤ 16384 := by rw [← O.len, L6.out.len]; exact hn
      have GN := Lib.hid (Grows.trans gb O.bel)
      clear O hK K
      refine wpK_from GN.out _ _ _ _ ?_
      refine wpK_seg 2 1 (f := 33) (by kernel_rfl) (fun _ _ _ _ _ h => h) (by kernel_rfl) (by kernel_rfl) (by kernel_rfl) (Grows.refl wn) ?_
      apply Exists.intro
      refine ⟨?_, ?_⟩
      · intro wg hg
        have CHX : Hid (∀ u : After wg, Calls Try.prog 26 #[.slice A' m' c'] u.w fun e w' => e = .returned (.string (strB (hexL L))) ∧ Below u.w.heap.size u.w w') := Lib.hid fun u => hex_any _ (by omega) ((CK.out.later hg).later u.below)
        simp only [List.drop_succ_cons, List.drop_zero, List.take_succ_cons, List.take_zero]
        repeat (go_big_quiet_step ((go_at_call 26; exact after_call (CHX.out _))))
        refine wpQuiet_nil ?_
        exact rfl
      refine wpK_seg 4 33 (f := 0) (by kernel_rfl) (fun _ _ _ _ _ h => h) (by kernel_rfl) (by kernel_rfl) (by kernel_rfl) (Grows.refl wn) ?_
      apply Exists.intro
      refine ⟨?_, ?_⟩
      · intro wg hg
        have GG := Lib.hid (Grows.trans GN.out hg)
        have CRH : Hid (∀ u : After wg, Calls Try.prog 27 #[.slice A n c] u.w fun e w' => e = .returned (.string (strB (hexL L))) ∧ Below u.w.heap.size u.w w') := Lib.hid fun u => rhex_any _ (by omega) ((L6.out.later GG.out).later u.below)
        have CSA : Hid (∀ u : After wg, Calls Try.prog 14 #[.slice X yn xc, .slice Y yn yc] u.w fun e w' => e = .returned (.bool true) ∧ Below u.w.heap.size u.w w') := Lib.hid fun u => by
          have := same_any (c := xc) (d := yc) u.w (by omega) (by omega) ((X6.out.later GG.out).later u.below) ((Y6.out.later GG.out).later u.below)
          rwa [eqB_yes rfl] at this
        have CTU : Hid (∀ u : After wg, Calls Try.prog 28 #[.agg (vals H).toArray] u.w fun e w' => e = .returned (.string (strB (hexL H.reverse))) ∧ Below u.w.heap.size u.w w') := Lib.hid fun u => CT.out _
        have CRT : Hid (∀ u : After wg, Calls Try.prog 29 #[.agg (vals H).toArray] u.w fun e w' => e = .returned (.string (strB (hexL H.reverse))) ∧ Below u.w.heap.size u.w w') := Lib.hid fun u => CR.out _
        have CWO : Hid (∀ u : After wg, Calls Try.prog 9 #[] u.w fun e w' => e = .returned (.bool true) ∧ Below u.w.heap.size u.w w') := Lib.hid fun u => works_any _
        simp only [List.drop_succ_cons, List.drop_zero, List.take_succ_cons, List.take_zero]
        repeat (go_big_quiet_step ((first | (go_at_call 27; exact after_call (CRH.out _)) | (go_at_call 14; exact after_call (CSA.out _)) | (go_at_call 28; exact after_call (CTU.out _)) | (go_at_call 29; exact after_call (CRT.out _)) | (go_at_call 9; exact after_call (CWO.out _)))))
        go_big_quiet_want
        refine quiet_load_hash (.tmp 5) rfl rfl (fun w hw => by obtain ⟨u, rfl⟩ := hw; exact (R6.out.later GG.out).later u.below) HH.out.len ?_
        go_big_quiet_on
        simp only [Act.put, List.setIfInBounds_toArray, List.set_cons_succ, List.set_cons_zero]
        repeat (go_big_quiet_step ((first | (go_at_call 27; exact after_call (CRH.out _)) | (go_at_call 14; exact after_call (CSA.out _)) | (go_at_call 28; exact after_call (CTU.out _)) | (go_at_call 29; exact after_call (CRT.out _)) | (go_at_call 9; exact after_call (CWO.out _)))))
        go_big_quiet_want
        refine quiet_load_hash (.tmp 5) rfl rfl (fun w hw => by obtain ⟨u, rfl⟩ := hw; exact (R6.out.later GG.out).later u.below) HH.out.len ?_
        go_big_quiet_on
        simp only [Act.put, List.setIfInBounds_toArray, List.set_cons_succ, List.set_cons_zero]
        repeat (go_big_quiet_step ((first | (go_at_call 27; exact after_call (CRH.out _)) | (go_at_call 14; exact after_call (CSA.out _)) | (go_at_call 28; exact after_call (CTU.out _)) | (go_at_call 29; exact after_call (CRT.out _)) | (go_at_call 9; exact after_call (CWO.out _)))))
        go_big_quiet_want
        refine quiet_load_hash (.tmp 11) rfl rfl (fun w hw => by obtain ⟨u, rfl⟩ := hw; exact (S6.out.later GG.out).later u.below) U32.out.len ?_
        go_big_quiet_on
        simp only [Act.put, List.setIfInBounds_toArray, List.set_cons_succ, List.set_cons_zero]
        repeat (go_big_quiet_step ((first | (go_at_call 27; exact after_call (CRH.out _)) | (go_at_call 14; exact after_call (CSA.out _)) | (go_at_call 28; exact after_call (CTU.out _)) | (go_at_call 29; exact after_call (CRT.out _)) | (go_at_call 9; exact after_call (CWO.out _)))))
        go_big_quiet_want
        refine quiet_load_hash (.tmp 13) rfl rfl (fun w hw => by obtain ⟨u, rfl⟩ := hw; exact (T6.out.later GG.out).later u.below) U32.out.len ?_
        go_big_quiet_on
        simp only [Act.put, List.setIfInBounds_toArray, List.set_cons_succ, List.set_cons_zero]
        repeat (go_big_quiet_step ((first | (go_at_call 27; exact after_call (CRH.out _)) | (go_at_call 14; exact after_call (CSA.out _)) | (go_at_call 28; exact after_call (CTU.out _)) | (go_at_call 29; exact after_call (CRT.out _)) | (go_at_call 9; exact after_call (CWO.out _)))))
        refine wpQuiet_nil ?_
        exact rfl
      refine wpK_end (by kernel_rfl) fun wz gz => ?_
      have BZ := Lib.hid (B6.out.trans ((Grows.trans GN.out gz).mono B6.out.size))
      go_wp2_with fail
      go_ret
      exact ⟨rfl, BZ.out⟩

theorem letters_law {A : Option Addr} {n c : Nat} {L : List Nat} {w : World} (hnc : n ≤ c) (hn63 : n ≤ 9223372036854775807) (hL : Bs w A n L) (s : ByteArray) (hs63 : s.size ≤ 9223372036854775807) (H : List Nat) (hH : H32 H) :
    Calls Try.prog 6 #[.slice A n c, .string s, hashV H] w (YesL w) := letters_any hnc hn63 hL s hs63 _ ⟨H, hH, rfl⟩

set_option maxRecDepth 100000 in
theorem octetLetters_lifted (os : Os) (started : os.Started) (H : Type) (enc : TypeId × Value → H) :
    ReturnsInHanded {} Try.checked os 6 .any (Rows.octetLettersSpec.pre6 enc Try.prog Try.f6 Rows.octetLettersRow.domain false) (Rows.octetLettersSpec.post enc Try.prog Try.f6 false true false false) := by
  refine returnsInHanded_of_change (C := Try.checked) Try.own started (by kernel_rfl) Try.func6
    (ChangeSpec.witness6 (enc := enc) (C := Try.checked) false ⟨#[], #[.slice none 0 0, .string ⟨#[]⟩, .agg #[.int .u8 0, .int .u8 0, .int .u8 0, .int .u8 0, .int .u8 0, .int .u8 0, .int .u8 0, .int .u8 0, .int .u8 0, .int .u8 0, .int .u8 0, .int .u8 0, .int .u8 0, .int .u8 0, .int .u8 0, .int .u8 0, .int .u8 0, .int .u8 0, .int .u8 0, .int .u8 0, .int .u8 0, .int .u8 0, .int .u8 0, .int .u8 0, .int .u8 0, .int .u8 0, .int .u8 0, .int .u8 0, .int .u8 0, .int .u8 0, .int .u8 0, .int .u8 0]], []⟩ 8 (by kernel_rfl) (by kernel_rfl) (by kernel_rfl) (by kernel_rfl)) ?_
  intro W base args ds gs before hval0 hW hcnd _
  have hval : ∀ (j : Nat) t v, Try.f6.params[j]? = some t → args[j]? = some v → Value.okWide Try.prog W .any base t v := hval0
  have hW' := hW
  obtain ⟨p, q, hA0, hV, rfl, hfz, hnd⟩ := hW
  have hA : DataW.TrodAll enc Try.prog W 0 (fun _ => true) true Try.f6.params.toList args.toList ds p := hA0
  rw [Try.params6] at hA hval
  obtain ⟨v0, vs0, d0, ds0, p0, q0, hargs, rfl, rfl, h0, r0⟩ := trodAll_cons hA
  obtain ⟨v1, vs1, d1, ds1, p1, q1, rfl, rfl, rfl, h1, r1⟩ := trodAll_cons r0
  obtain ⟨v2, vs2, d2, ds2, p2, q2, rfl, rfl, rfl, h2, r2⟩ := trodAll_cons r1
  obtain ⟨rfl, rfl, rfl⟩ := trodAll_nil r2
  obtain rfl : args = #[v0, v1, v2] := by cases args; simp_all
  obtain ⟨rfl, rfl⟩ := trodVars_none hV
  have lt0 : ∀ x ∈ p0, x.block < W.heap.size := by obtain ⟨m, hm⟩ := h0; exact DataW.trod_lt m _ _ _ hm
  have lt1 : ∀ x ∈ p1, x.block < W.heap.size := by obtain ⟨m, hm⟩ := h1; exact DataW.trod_lt m _ _ _ hm
  have lt2 : ∀ x ∈ p2, x.block < W.heap.size := by obtain ⟨m, hm⟩ := h2; exact DataW.trod_lt m _ _ _ hm
  obtain ⟨aA, an, ac, aL, ⟨a1, a2, a3⟩, rfl⟩ := open_bytes (hval 0 22 v0 rfl rfl) h0
  obtain ⟨b, wb, rfl⟩ := open_str (hval 1 9 v1 rfl rfl) h1
  obtain ⟨c, wc, rfl⟩ := open_hash (hval 2 42 v2 rfl rfl) h2
  clear hA0 hval0
  refine (letters_law a1 (by omega) a3 b wb c wc).mono fun e W' ⟨he, bel⟩ => ?_
  subst he
  exact ⟨_, rfl, _, _, _, [], _, [], hW', trodAll_mk1 (shut_bool Try.underlying4 _), (trodAll_cons_mk (Below.trod Try.laidOut (by kernel_rfl) (of_decide_eq_true (by kernel_rfl)) h0 bel lt0) (trodAll_cons_mk (Below.trod Try.laidOut (by kernel_rfl) (of_decide_eq_true (by kernel_rfl)) h1 bel lt1) (trodAll_cons_mk (Below.trod Try.laidOut (by kernel_rfl) (of_decide_eq_true (by kernel_rfl)) h2 bel lt2) trodAll_mk0))), rfl, bel.frame _, fun h => by cases h⟩

theorem octetLetters_holds : Rows.OctetLettersSaid :=
  OpenClaim.holds_of_wide 6 Try.f6 rfl rfl rfl rfl rfl rfl rfl ⟨rfl, rfl, rfl, rfl, rfl⟩ rfl rfl rfl rfl rfl (by kernel_rfl) Try.func6 (by kernel_rfl)
    (of_decide_eq_true (by kernel_rfl)) (by unfold Func.isWrapper; rw [if_neg (of_decide_eq_false (by kernel_rfl))]; exact ⟨rfl, rfl⟩)
    (fun os started H enc _ => octetLetters_lifted os started H enc)

end Go.Proofs.Ytcnmplkljpkheaa
