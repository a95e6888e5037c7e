/- OctetNumbers: any number as bytes of any size, and what number stands at any place, are the document's. No condition. -/
import Derived.Test.YtcnmplkljpkheaaBeside
import Derived.Test.YtcnmplkljpkheaaOpen
namespace Go.Proofs.Ytcnmplkljpkheaa
open Go.ChangeShapes Go.WideShapes Go.ChangeAt Go.RowKit

theorem vast_no {A : Option Addr} {n c : Nat} (h : n ≤ 16384) (w : World) : Calls Try.prog 8 #[.slice A n c] w fun e w' => e = .returned (.bool false) ∧ w' = w := by
  have := vast_any A n c (by omega) w
  rwa [decide_eq_false (by omega : ¬ 16384 < n)] at this
theorem vast_yes {A : Option Addr} {n c : Nat} (h : 16384 < n) (hn : n ≤ 9223372036854775807) (w : World) : Calls Try.prog 8 #[.slice A n c] w fun e w' => e = .returned (.bool true) ∧ w' = w := by
  have := vast_any A n c hn w
  rwa [decide_eq_true h] at this
def Yes (w : World) (e : Ending) (w' : World) : Prop := e = .returned (.bool true) ∧ Below w.heap.size w w'
theorem putS_len {L : List Nat} {n : Nat} {size : Int} : (putS L n size).length ≤ L.length + 8 := by
  cases h : sizeB size with
  | false => rw [putS_no h]; omega
  | true =>
    obtain ⟨k, rfl, _, _⟩ := sizeB_nat h
    rw [putS_yes h, List.length_append, low_length]
    omega


set_option maxRecDepth 100000 in
set_option maxHeartbeats 8000000 in
theorem numbers_any {A : Option Addr} {n c : Nat} {L : List Nat} (w : World) (hnc : n ≤ c) (hn63 : n ≤ 9223372036854775807) (hL : Bs w A n L) (N : Nat) (hN : N < 18446744073709551616) (a : Int) (ha : -9223372036854775808 ≤ a ∧ a ≤ 9223372036854775807) (size : Int) :
    Calls Try.prog 3 #[.slice A n c, .int .u64 (N : Nat), .int .i64 a, .int .i64 size] w (Yes w) := by
  have HL := Lib.hid hL
  obtain ⟨ha0, ha1⟩ := ha
  have HA0 := Lib.hid ha0
  have HA1 := Lib.hid ha1
  clear hL ha0 ha1
  by_cases hv : 16384 < n
  · have V := Lib.hid (fun w => vast_yes (A := A) (c := c) hv hn63 w)
    go_enter Try.func3, Try.ntmps3
    go_wp2_with fail
    refine (V.out _).mono ?_
    rintro e w1 ⟨rfl, rfl⟩
    go_wp2_with fail
    refine (works_any _).mono ?_
    rintro e w1 ⟨rfl, hb⟩
    have B := Lib.hid hb
    clear hb
    go_wp2_with fail
    go_ret
    exact ⟨rfl, B.out⟩
  · have hn : n ≤ 16384 := by omega
    have V := Lib.hid (fun w => vast_no (A := A) (c := c) hn w)
    have hmk := run_make_bytes 0 (n + 40) 0 (n + 40) rfl (by omega) (by omega) (by omega)
    clear hv hn63
    go_enter Try.func3, Try.ntmps3
    go_wp2_with fail
    refine (V.out _).mono ?_
    rintro e w1 ⟨rfl, rfl⟩
    go_wp2_with (at_builtin; refine wpList_app rfl _ _ rfl rfl (Own.made (Below.refl _ _) _ _ ?c1 ?c2) rfl (HL.out.later ((Below.refl _ _).alloc (Nat.le_refl _) _)) ?c3 ?_)
    case c1 => unfold maxLen; omega
    case c2 => simp [vals]
    case c3 => omega
    intro A1 c1 w2 h1 h2 _
    have O2 := Lib.hid h2
    clear h1 h2 hmk
    go_wp2_with fail
    refine (put_any N hN size _ (by omega) O2.out.reads).mono ?_
    rintro e w3 ⟨C, m, d, rfl, hd, O⟩
    have hm : m ≤ 16392 := by
      have h1 := O.len
      have h2 := putS_len (L := [] ++ L) (n := N) (size := size)
      have h3 := HL.out.len
      rw [List.nil_append] at h2
      omega
    have BS : Beside w1 (.slice A1 n c1) n L C m (putS L N size) w3 := ⟨O2.out.later O.bel, O.reads, fun _ q x e1 e2 => by
      have h1 := (O2.out.new q e1).2
      have h2 := (O.new x.block (by rw [e2]; rfl)).1
      omega⟩
    have HBS := Lib.hid BS
    clear BS O hd
    go_wp2_with fail
    obtain ⟨P, hP⟩ : ∃ P, putS L N size = P := ⟨_, rfl⟩
    rw [hP] at HBS
    have HP := Lib.hid hP
    clear hP
    go_loopw [9, 11] (fun v i wr => ∃ k : Nat, k ≤ 40 ∧ i = .int .i64 (k : Nat) ∧ Beside w1 v (n + k) (L ++ List.replicate k 238) C m P wr) (fun _ i _ => 40 - (intOf i).toNat)
    case atStart => exact ⟨0, by omega, rfl, by rw [List.replicate_zero, List.append_nil]; exact HBS.out⟩
    case round =>
      obtain ⟨k, hk, rfl, BK⟩ := hrel
      obtain ⟨A2, c2, rfl, hc2⟩ := BK.own.shape
      have HB := Lib.hid BK
      clear BK
      by_cases hlt : k < 40
      · go_wp2_with (at_builtin; refine wpList_app_beside rfl _ _ rfl rfl (HB.out.later ((Below.refl _ _).alloc (Nat.le_refl _) _)) rfl (Bs.lit1 _ (by decide)) (by omega) ?_; intro A' c' w' _ h1; have H1 := Lib.hid h1; clear h1)
        go_roundw
        case rel => exact ⟨k + 1, by omega, by go_num, by rw [List.replicate_succ', ← List.append_assoc]; exact H1.out⟩
        case measure => simp [intOf]; omega
      · obtain rfl : k = 40 := by omega
        have BEL := Lib.hid HB.out.own.bel
        have R4 := Lib.hid (HL.out.later BEL.out)
        go_wp2_with fail
        refine (copied_any _ (by omega) R4.out).mono ?_
        rintro e w4 ⟨D, q, dd, rfl, hdq, O⟩
        obtain rfl : q = n := by rw [← O.len, HL.out.len]
        have H4 := Lib.hid (HB.out.later O.bel)
        have RD := Lib.hid O.reads
        have HD := Lib.hid hdq
        clear O hdq
        go_wp2_with fail
        refine (take_any a size HA0.out HA1.out _ (by omega) HD.out RD.out).mono ?_
        rintro e w5 ⟨rfl, hb⟩
        have H5 := Lib.hid (H4.out.later hb)
        clear hb
        obtain ⟨X, hX⟩ : ∃ X, takeN L a size = X := ⟨_, rfl⟩
        obtain ⟨Y, hY⟩ : ∃ Y, takeP L a size = Y := ⟨_, rfl⟩
        obtain ⟨Z, hZ⟩ : ∃ Z, takeE L a size = Z := ⟨_, rfl⟩
        have RT := fun w (h : Bs w A q L) => rtake_any (c := c) a size HA0.out HA1.out w (by omega) h
        unfold TakeEnd at RT
        rw [hX, hY, hZ] at RT ⊢
        have HRT := Lib.hid RT
        clear RT hX hY hZ
        have R5 := Lib.hid (HL.out.later H5.out.own.bel)
        go_wp2_with fail
        refine (HRT.out _ R5.out).mono ?_
        rintro e w6 ⟨rfl, hb⟩
        have H6 := Lib.hid (H5.out.later hb)
        have R6 := Lib.hid (R5.out.later hb)
        clear hb
        go_wp2_with fail
        refine (rput_any N hN size _ (by omega) R6.out).mono ?_
        rintro e w7 ⟨E, r, re, rfl, hre, O⟩
        rw [HP.out] at O
        obtain rfl : r = m := by rw [← O.len, H6.out.oth.len]
        have H7 := Lib.hid (H6.out.later O.bel)
        have RE := Lib.hid O.reads
        have R7 := Lib.hid (R6.out.later O.bel)
        clear O hre
        go_wp2_with fail
        refine (same_any _ (by omega) (by omega) H7.out.oth RE.out).mono ?_
        rintro e w8 ⟨rfl, hb⟩
        rw [eqB_yes rfl]
        have H8 := Lib.hid (H7.out.later hb)
        have R8 := Lib.hid (R7.out.later hb)
        clear hb
        go_wp2_with fail
        refine (same_any _ (by omega) (by omega) (H8.out.own.reads.head HL.out.len) R8.out).mono ?_
        rintro e w9 ⟨rfl, hb⟩
        rw [eqB_yes rfl]
        have B9 := Lib.hid (H8.out.later hb).own.bel
        clear hb
        go_wp2_with fail
        refine (works_any _).mono ?_
        rintro e w10 ⟨rfl, hb⟩
        have B10 := Lib.hid (B9.out.trans (hb.mono B9.out.size))
        clear hb
        go_wp2_with fail
        go_ret
        exact ⟨rfl, B10.out⟩

theorem numbers_at {A : Option Addr} {n c : Nat} {L : List Nat} {w : World} (hnc : n ≤ c) (hn63 : n ≤ 9223372036854775807) (hL : Bs w A n L) (N : Nat) (hN : N < 18446744073709551616) (a : Int) (ha : -9223372036854775808 ≤ a ∧ a ≤ 9223372036854775807) (size : Int) (_hs : -9223372036854775808 ≤ size ∧ size ≤ 9223372036854775807) :
    Calls Try.prog 3 #[.slice A n c, .int .u64 (N : Nat), .int .i64 a, .int .i64 size] w (Yes w) := numbers_any w hnc hn63 hL N hN a ha size

set_option maxRecDepth 100000 in
theorem octetNumbers_lifted (os : Os) (started : os.Started) (H : Type) (enc : TypeId × Value → H) :
    ReturnsInHanded {} Try.checked os 3 .any (Rows.octetNumbersSpec.pre6 enc Try.prog Try.f3 Rows.octetNumbersRow.domain false) (Rows.octetNumbersSpec.post enc Try.prog Try.f3 false true false false) := by
  refine returnsInHanded_of_change (C := Try.checked) Try.own started (by kernel_rfl) Try.func3
    (ChangeSpec.witness6 (enc := enc) (C := Try.checked) false ⟨#[], #[.slice none 0 0, .int .u64 0, .int .i64 0, .int .i64 0], []⟩ 8 (by kernel_rfl) (by kernel_rfl) (by kernel_rfl) (by kernel_rfl)) ?_
  intro W base args ds gs before hval0 hW hcnd _
  have hval : ∀ (j : Nat) t v, Try.f3.params[j]? = some t → args[j]? = some v → Value.okWide Try.prog W .any base t v := hval0
  have hW' := hW
  obtain ⟨p, q, hA0, hV, rfl, hfz, hnd⟩ := hW
  have hA : DataW.TrodAll enc Try.prog W 0 (fun _ => true) true Try.f3.params.toList args.toList ds p := hA0
  rw [Try.params3] at hA hval
  obtain ⟨v0, vs0, d0, ds0, p0, q0, hargs, rfl, rfl, h0, r0⟩ := trodAll_cons hA
  obtain ⟨v1, vs1, d1, ds1, p1, q1, rfl, rfl, rfl, h1, r1⟩ := trodAll_cons r0
  obtain ⟨v2, vs2, d2, ds2, p2, q2, rfl, rfl, rfl, h2, r2⟩ := trodAll_cons r1
  obtain ⟨v3, vs3, d3, ds3, p3, q3, rfl, rfl, rfl, h3, r3⟩ := trodAll_cons r2
  obtain ⟨rfl, rfl, rfl⟩ := trodAll_nil r3
  obtain rfl : args = #[v0, v1, v2, v3] := by cases args; simp_all
  obtain ⟨rfl, rfl⟩ := trodVars_none hV
  have lt0 : ∀ x ∈ p0, x.block < W.heap.size := by obtain ⟨m, hm⟩ := h0; exact DataW.trod_lt m _ _ _ hm
  have lt1 : ∀ x ∈ p1, x.block < W.heap.size := by obtain ⟨m, hm⟩ := h1; exact DataW.trod_lt m _ _ _ hm
  have lt2 : ∀ x ∈ p2, x.block < W.heap.size := by obtain ⟨m, hm⟩ := h2; exact DataW.trod_lt m _ _ _ hm
  have lt3 : ∀ x ∈ p3, x.block < W.heap.size := by obtain ⟨m, hm⟩ := h3; exact DataW.trod_lt m _ _ _ hm
  obtain ⟨aA, an, ac, aL, ⟨a1, a2, a3⟩, rfl⟩ := open_bytes (hval 0 22 v0 rfl rfl) h0
  obtain ⟨b, wb, rfl⟩ := open_u64 (hval 1 23 v1 rfl rfl) h1
  obtain ⟨c, wc, rfl⟩ := open_i64 (hval 2 3 v2 rfl rfl) h2
  obtain ⟨d, wd, rfl⟩ := open_i64 (hval 3 3 v3 rfl rfl) h3
  clear hA0 hval0
  refine (numbers_at a1 (by omega) a3 b wb c wc d wd).mono fun e W' ⟨he, bel⟩ => ?_
  subst he
  exact ⟨_, rfl, _, _, _, [], _, [], hW', trodAll_mk1 (shut_bool Try.underlying4 _), (trodAll_cons_mk (Below.trod Try.laidOut (by kernel_rfl) (of_decide_eq_true (by kernel_rfl)) h0 bel lt0) (trodAll_cons_mk (Below.trod Try.laidOut (by kernel_rfl) (of_decide_eq_true (by kernel_rfl)) h1 bel lt1) (trodAll_cons_mk (Below.trod Try.laidOut (by kernel_rfl) (of_decide_eq_true (by kernel_rfl)) h2 bel lt2) (trodAll_cons_mk (Below.trod Try.laidOut (by kernel_rfl) (of_decide_eq_true (by kernel_rfl)) h3 bel lt3) trodAll_mk0)))), rfl, bel.frame _, fun h => by cases h⟩

theorem octetNumbers_holds : Rows.OctetNumbersSaid :=
  OpenClaim.holds_of_wide 3 Try.f3 rfl rfl rfl rfl rfl rfl rfl ⟨rfl, rfl, rfl, rfl, rfl⟩ rfl rfl rfl rfl rfl (by kernel_rfl) Try.func3 (by kernel_rfl)
    (of_decide_eq_true (by kernel_rfl)) (by unfold Func.isWrapper; rw [if_neg (of_decide_eq_false (by kernel_rfl))]; exact ⟨rfl, rfl⟩)
    (fun os started H enc _ => octetNumbers_lifted os started H enc)

end Go.Proofs.Ytcnmplkljpkheaa
