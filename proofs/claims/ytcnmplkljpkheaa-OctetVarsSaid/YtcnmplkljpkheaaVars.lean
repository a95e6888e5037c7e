/- OctetVars: any number's short form, which one stands at any place, and any bytes from there on, are the document's. No condition. -/
import Derived.Test.YtcnmplkljpkheaaNumbers
import Derived.Test.YtcnmplkljpkheaaRSome
namespace Go.Proofs.Ytcnmplkljpkheaa
open Go.ChangeShapes Go.WideShapes Go.ChangeAt Go.RowKit

theorem somL_le (L : List Nat) (a : Int) (n : Nat) : (somL L a n).length ≤ L.length := by
  unfold somL
  split
  · simp; omega
  · simp
theorem xor_byte {x : Nat} (h : x < 256) : ∃ y : Nat, y < 256 ∧ bits BinOp.xor IntKind.u8 (x : Int) 119 = (y : Nat) := by
  have : ∀ x : Fin 256, 0 ≤ bits BinOp.xor IntKind.u8 ((x.val : Nat) : Int) 119 ∧ bits BinOp.xor IntKind.u8 ((x.val : Nat) : Int) 119 < 256 := by decide +kernel
  have h3 := this ⟨x, h⟩
  obtain ⟨h1, h2⟩ : 0 ≤ bits BinOp.xor IntKind.u8 (x : Int) 119 ∧ bits BinOp.xor IntKind.u8 (x : Int) 119 < 256 := h3
  exact ⟨(bits BinOp.xor IntKind.u8 (x : Int) 119).toNat, by omega, (Int.toNat_of_nonneg h1).symm⟩
/-- A row of the call's own that is written to, whatever it holds, beside two slices that read the same. -/
structure Stir (w0 : World) (M : Option Addr) (n c : Nat) (p z : Option Addr) (m : Nat) (SL : List Nat) (wr : World) : Prop where
  own : ∃ L, Own w0 (.slice M n c) n L wr
  rp : Bs wr p m SL
  rz : Bs wr z m SL
  ap : 0 < m → ∀ g ad, M = some ⟨g, 0, none⟩ → p = some ad → ad.block ≠ g
  az : 0 < m → ∀ g ad, M = some ⟨g, 0, none⟩ → z = some ad → ad.block ≠ g
theorem Stir.bel {w0 : World} {M : Option Addr} {n c : Nat} {p z : Option Addr} {m : Nat} {SL : List Nat} {wr : World} (h : Stir w0 M n c p z m SL wr) : Below w0.heap.size w0 wr := by
  obtain ⟨_, O⟩ := h.own
  exact O.bel
theorem Bs.setFar {w : World} {A : Option Addr} {n : Nat} {L : List Nat} (h : Bs w A n L) {g k : Nat} (u : Value) (hf : 0 < n → ∀ ad, A = some ad → ad.block ≠ g) : Bs (w.setCell ⟨g, k, none⟩ u) A n L :=
  ⟨h.len, h.byt, fun hn => by
    obtain ⟨a, e, hb, hc⟩ := h.cel hn
    refine ⟨a, e, by simpa [World.setCell] using hb, fun q hq => ?_⟩
    rw [← hc q hq]
    refine World.cell?_of_block ?_
    rw [add_block]
    exact Below.heap_setCell _ _ _ _ (hf hn a e)⟩
theorem Stir.step {w0 : World} {M : Option Addr} {n c : Nat} {p z : Option Addr} {m : Nat} {SL : List Nat} {wr : World} (h : Stir w0 M n c p z m SL wr) {k : Nat} (hk : k < n) :
    ∃ g x y : Nat, M = some ⟨g, 0, none⟩ ∧ x < 256 ∧ wr.cell? ⟨g, k, none⟩ = some (.int .u8 (x : Nat)) ∧ wr.frozen? ⟨g, k, none⟩ = false ∧ bits BinOp.xor IntKind.u8 (x : Int) 119 = (y : Nat) ∧ Stir w0 M n c p z m SL (wr.setCell ⟨g, k, none⟩ (.int .u8 (y : Nat))) := by
  obtain ⟨L, O⟩ := h.own
  obtain ⟨g, rfl⟩ := O.headed (by omega)
  have hl := O.len
  have hx := nth_lt O.byt k
  obtain ⟨y, hy, ey⟩ := xor_byte hx
  refine ⟨g, nth L k, y, rfl, hx, ?_, O.row.frozenAt k, ey, ⟨⟨L.set k y, ⟨?_, fun q hq => ?_, O.bel.setCell (O.new g rfl).1 _⟩⟩, h.rp.setFar _ fun hm ad e => h.ap hm g ad rfl e, h.rz.setFar _ fun hm ad e => h.az hm g ad rfl e, h.ap, h.az⟩⟩
  · rw [O.row.cellAt k (by omega), vals_get L k (by omega)]
  · have := (O.row.stored k (.int .u8 (y : Nat))).1
    rwa [vals_set] at this
  · rcases List.mem_or_eq_of_mem_set hq with h1 | rfl
    · exact O.byt q h1
    · exact hy
theorem varS_le (n : Nat) : (varS n).length ≤ 9 := by rw [varS_length]; have := behind_le (first n); omega

set_option maxRecDepth 100000 in
set_option maxHeartbeats 16000000 in
theorem vars_any {A : Option Addr} {n c : Nat} {L : List Nat} (w : World) (hnc : n ≤ c) (hn63 : n ≤ 9223372036854775807) (hL : Bs w A n L) (N : Nat) (hN : N < 18446744073709551616) (a : Int) (ha : -9223372036854775808 ≤ a ∧ a ≤ 9223372036854775807) :
    Calls Try.prog 4 #[.slice A n c, .int .u64 (N : Nat), .int .i64 a] w (Yes w) := by
  have HL := Lib.hid hL
  obtain ⟨ha0, ha1⟩ := ha
  have HA0 := Lib.hid ha0
  have HA1 := Lib.hid ha1
  have HN := Lib.hid hN
  clear hL ha0 ha1 hN
  by_cases hv : 16384 < n
  · have V := Lib.hid (fun w => vast_yes (A := A) (c := c) hv hn63 w)
    go_enter Try.func4, Try.ntmps4
    go_wp2_with fail
    refine (V.out _).mono ?_
    rintro e w1 ⟨rfl, rfl⟩
    go_wp2_with fail
    refine (works_any _).mono ?_
    rintro e w1 ⟨rfl, hb⟩
    have B := Lib.hid hb
    clear hb
    go_wp2_with fail
    go_ret
    exact ⟨rfl, B.out⟩
  · have hn : n ≤ 16384 := by omega
    have V := Lib.hid (fun w => vast_no (A := A) (c := c) hn w)
    have hmk := run_make_bytes 0 (n + 40) 0 (n + 40) rfl (by omega) (by omega) (by omega)
    clear hv hn63
    obtain ⟨P, hP⟩ : ∃ P, L ++ varS N = P := ⟨_, rfl⟩
    have hPl : P.length ≤ n + 9 := by rw [← hP, List.length_append, HL.out.len]; have := varS_le N; omega
    have HP := Lib.hid hP
    have HPL := Lib.hid hPl
    clear hP hPl
    go_enter Try.func4, Try.ntmps4
    go_wp2_with fail
    refine (V.out _).mono ?_
    rintro e w1 ⟨rfl, rfl⟩
    go_wp2_with (at_builtin; refine wpList_app rfl _ _ rfl rfl (Own.made (Below.refl _ _) _ _ ?c1 ?c2) rfl (HL.out.later ((Below.refl _ _).alloc (Nat.le_refl _) _)) ?c3 ?_)
    case c1 => unfold maxLen; omega
    case c2 => simp [vals]
    case c3 => omega
    intro A1 c1 w2 h1 h2 _
    have O2 := Lib.hid h2
    clear h1 h2 hmk
    go_wp2_with fail
    refine (putVar_any N HN.out _ (by omega) O2.out.reads).mono ?_
    rintro e w3 ⟨C, m, d, rfl, hd, O⟩
    have hm : m ≤ 16393 := by
      have h1 := O.len
      have h2 : ([] ++ L ++ varS N).length ≤ n + 9 := by rw [List.nil_append, HP.out]; exact HPL.out
      first | omega | (rw [List.nil_append] at h2; omega)
    have BS : Beside w1 (.slice A1 n c1) n L C m P w3 := ⟨O2.out.later O.bel, by have := O.reads; rw [← HP.out]; simpa using this, fun _ q x e1 e2 => by
      have h1 := (O2.out.new q e1).2
      have h2 := (O.new x.block (by rw [e2]; rfl)).1
      omega⟩
    have HBS := Lib.hid BS
    clear BS O hd
    go_wp2_with fail
    go_loopw [7, 9] (fun v i wr => ∃ k : Nat, k ≤ 40 ∧ i = .int .i64 (k : Nat) ∧ Beside w1 v (n + k) (L ++ List.replicate k 238) C m P wr) (fun _ i _ => 40 - (intOf i).toNat)
    case atStart => exact ⟨0, by omega, rfl, by rw [List.replicate_zero, List.append_nil]; exact HBS.out⟩
    case round =>
      obtain ⟨k, hk, rfl, BK⟩ := hrel
      obtain ⟨A2, c2, rfl, hc2⟩ := BK.own.shape
      have HB := Lib.hid BK
      clear BK
      by_cases hlt : k < 40
      · go_wp2_with (at_builtin; refine wpList_app_beside rfl _ _ rfl rfl (HB.out.later ((Below.refl _ _).alloc (Nat.le_refl _) _)) rfl (Bs.lit1 _ (by decide)) (by omega) ?_; intro A' c' w' _ h1; have H1 := Lib.hid h1; clear h1)
        go_roundw
        case rel => exact ⟨k + 1, by omega, by go_num, by rw [List.replicate_succ', ← List.append_assoc]; exact H1.out⟩
        case measure => simp [intOf]; omega
      · obtain rfl : k = 40 := by omega
        have R4 := Lib.hid (HL.out.later HB.out.own.bel)
        go_wp2_with fail
        refine (copied_any _ (by omega) R4.out).mono ?_
        rintro e w4 ⟨D, q, dd, rfl, hdq, O⟩
        obtain rfl : q = n := by rw [← O.len, HL.out.len]
        have H4 := Lib.hid (HB.out.later O.bel)
        have RD := Lib.hid O.reads
        have HD := Lib.hid hdq
        clear O hdq
        go_wp2_with fail
        refine (takeVar_any a HA0.out HA1.out _ (by omega) HD.out RD.out).mono ?_
        rintro e w5 ⟨rfl, hb⟩
        have H5 := Lib.hid (H4.out.later hb)
        clear hb
        obtain ⟨X, hX⟩ : ∃ X, tvRn L a = X := ⟨_, rfl⟩
        obtain ⟨Y, hY⟩ : ∃ Y, tvRp L a = Y := ⟨_, rfl⟩
        obtain ⟨Z, hZ⟩ : ∃ Z, tvRe L a = Z := ⟨_, rfl⟩
        have RT := fun w (h : Bs w A q L) => rtakeVar_any (c := c) a HA0.out HA1.out w (by omega) hnc h
        unfold TvEnd at RT
        rw [hX, hY, hZ] at RT ⊢
        have HRT := Lib.hid RT
        clear RT hX hY hZ
        have R5 := Lib.hid (HL.out.later H5.out.own.bel)
        go_wp2_with fail
        refine (HRT.out _ R5.out).mono ?_
        rintro e w6 ⟨rfl, hb⟩
        have H6 := Lib.hid (H5.out.later hb)
        have R6 := Lib.hid (R5.out.later hb)
        clear hb
        go_wp2_with fail
        refine (copied_any _ (by omega) R6.out).mono ?_
        rintro e w7 ⟨E, r, re, rfl, hre, O⟩
        obtain rfl : r = q := by rw [← O.len, HL.out.len]
        have H7 := Lib.hid (H6.out.later O.bel)
        have R7 := Lib.hid (R6.out.later O.bel)
        have O7 := Lib.hid O
        clear O hre
        go_wp2_with fail
        refine (rvar_any N HN.out _).mono ?_
        rintro e w8 ⟨F, t, tc, rfl, htc, O⟩
        have ht : t ≤ 9 := by rw [← O.len]; exact varS_le N
        have H8 := Lib.hid (H7.out.later O.bel)
        have R8 := Lib.hid (R7.out.later O.bel)
        have O8 := Lib.hid (O7.out.later O.bel)
        have F8 := Lib.hid O.reads
        clear O htc
        go_wp2_with (at_builtin; refine wpList_app rfl _ _ rfl rfl O8.out rfl F8.out (by omega) ?_; intro G gc w9 _ h1 h2; have O9 := Lib.hid h1; have G9 := Lib.hid h2; clear h1 h2)
        have H9 := Lib.hid (H6.out.later O9.out.bel)
        have R9 := Lib.hid (R6.out.later O9.out.bel)
        refine (same_any _ (by omega) (by omega) H9.out.oth O9.out.reads).mono ?_
        rintro e w10 ⟨rfl, hb⟩
        rw [eqB_yes HP.out.symm]
        have H10 := Lib.hid (H9.out.later hb)
        have R10 := Lib.hid (R9.out.later hb)
        clear hb
        go_wp2_with fail
        refine (same_any _ (by omega) (by omega) (H10.out.own.reads.head HL.out.len) R10.out).mono ?_
        rintro e w11 ⟨rfl, hb⟩
        rw [eqB_yes rfl]
        have B11 := Lib.hid (H10.out.later hb).own.bel
        have R11 := Lib.hid (R10.out.later hb)
        clear hb
        go_wp2_with fail
        refine (copied_any _ (by omega) R11.out).mono ?_
        rintro e w12 ⟨M, mn, mc, rfl, hmc, O⟩
        obtain rfl : mn = r := by rw [← O.len, HL.out.len]
        have B12 := Lib.hid (B11.out.trans (O.bel.mono B11.out.size))
        have R12 := Lib.hid (R11.out.later O.bel)
        have O12 := Lib.hid O
        have HMC := Lib.hid hmc
        clear O hmc
        go_wp2_with fail
        refine (some_any a N HN.out HA0.out HA1.out _ (by omega) HMC.out O12.out.reads).mono ?_
        rintro e w13 ⟨p, pn, pc, rfl, _, O⟩
        obtain ⟨SL, hSL⟩ : ∃ SL, somL L a N = SL := ⟨_, rfl⟩
        obtain ⟨SP, hSP⟩ : ∃ SP, somP L a N = SP := ⟨_, rfl⟩
        obtain ⟨SE, hSE⟩ : ∃ SE, somE L a N = SE := ⟨_, rfl⟩
        have RS := fun w (h : Bs w A mn L) => rsome_any (c := c) a N HN.out HA0.out HA1.out w (by omega) hnc h
        unfold SomeEnd at RS
        rw [hSL] at RS O
        rw [hSP, hSE] at RS ⊢
        have HRS := Lib.hid RS
        have hpn : pn ≤ mn := by rw [← O.len, ← hSL]; exact Nat.le_trans (somL_le L a N) (by rw [HL.out.len]; exact Nat.le_refl _)
        have B13 := Lib.hid (B12.out.trans (O.bel.mono B12.out.size))
        have R13 := Lib.hid (R12.out.later O.bel)
        have M13 := Lib.hid (O12.out.later O.bel)
        have P13 := Lib.hid O.reads
        have AP : Hid (0 < pn → ∀ g ad, M = some ⟨g, 0, none⟩ → p = some ad → ad.block ≠ g) := Lib.hid fun _ g ad e1 e2 => by
          have h1 := (O12.out.new g (by rw [e1]; rfl)).2
          have h2 := (O.new ad.block (by rw [e2]; rfl)).1
          omega
        clear RS O hSL hSP hSE
        go_wp2_with fail
        refine (HRS.out _ R13.out).mono ?_
        rintro e w14 ⟨z, zn, zc, rfl, _, O⟩
        obtain rfl : zn = pn := by rw [← O.len, P13.out.len]
        have B14 := Lib.hid (B13.out.trans (O.bel.mono B13.out.size))
        have M14 := Lib.hid (M13.out.later O.bel)
        have P14 := Lib.hid (P13.out.later O.bel)
        have Z14 := Lib.hid O.reads
        have AZ : Hid (0 < zn → ∀ g ad, M = some ⟨g, 0, none⟩ → z = some ad → ad.block ≠ g) := Lib.hid fun _ g ad e1 e2 => by
          have h1 := (M13.out.new g (by rw [e1]; rfl)).2
          have h2 := (O.new ad.block (by rw [e2]; rfl)).1
          omega
        clear O
        have ST : Hid (Stir w11 M mn mc p z zn SL w14) := Lib.hid ⟨⟨_, M14.out⟩, P14.out, Z14.out, AP.out, AZ.out⟩
        have BM := Lib.hid B11.out
        go_wp2_with fail
        go_loopw [23] (fun i wr => ∃ k : Nat, k ≤ mn ∧ i = .int .i64 (k : Nat) ∧ Stir w11 M mn mc p z zn SL wr) (fun i _ => mn - (intOf i).toNat)
        case atStart => exact ⟨0, by omega, rfl, ST.out⟩
        case round =>
          obtain ⟨k, hk, rfl, SK⟩ := hrel
          by_cases hlt2 : k < mn
          · obtain ⟨g, x, y, rfl, x8, cx, fx, ey, SN⟩ := SK.step hlt2
            have HSN := Lib.hid SN
            clear SN SK
            go_wp2_with fail
            go_roundw
            case rel => exact ⟨k + 1, by omega, by go_num, HSN.out⟩
            case measure => simp [intOf]; omega
          · have HS := Lib.hid SK
            clear SK
            go_wp2_with fail
            refine (same_any _ (by omega) (by omega) HS.out.rp HS.out.rz).mono ?_
            rintro e w15 ⟨rfl, hb⟩
            rw [eqB_yes rfl]
            have B15 := Lib.hid (HS.out.bel.trans (hb.mono HS.out.bel.size))
            clear hb
            go_wp2_with fail
            refine (works_any _).mono ?_
            rintro e w16 ⟨rfl, hb⟩
            have B16 := Lib.hid (BM.out.trans ((B15.out.trans (hb.mono B15.out.size)).mono BM.out.size))
            clear hb
            go_wp2_with fail
            go_ret
            exact ⟨rfl, B16.out⟩

theorem vars_law {A : Option Addr} {n c : Nat} {L : List Nat} {w : World} (hnc : n ≤ c) (hn63 : n ≤ 9223372036854775807) (hL : Bs w A n L) (N : Nat) (hN : N < 18446744073709551616) (a : Int) (ha : -9223372036854775808 ≤ a ∧ a ≤ 9223372036854775807) :
    Calls Try.prog 4 #[.slice A n c, .int .u64 (N : Nat), .int .i64 a] w (Yes w) := vars_any w hnc hn63 hL N hN a ha

set_option maxRecDepth 100000 in
theorem octetVars_lifted (os : Os) (started : os.Started) (H : Type) (enc : TypeId × Value → H) :
    ReturnsInHanded {} Try.checked os 4 .any (Rows.octetVarsSpec.pre6 enc Try.prog Try.f4 Rows.octetVarsRow.domain false) (Rows.octetVarsSpec.post enc Try.prog Try.f4 false true false false) := by
  refine returnsInHanded_of_change (C := Try.checked) Try.own started (by kernel_rfl) Try.func4
    (ChangeSpec.witness6 (enc := enc) (C := Try.checked) false ⟨#[], #[.slice none 0 0, .int .u64 0, .int .i64 0], []⟩ 8 (by kernel_rfl) (by kernel_rfl) (by kernel_rfl) (by kernel_rfl)) ?_
  intro W base args ds gs before hval0 hW hcnd _
  have hval : ∀ (j : Nat) t v, Try.f4.params[j]? = some t → args[j]? = some v → Value.okWide Try.prog W .any base t v := hval0
  have hW' := hW
  obtain ⟨p, q, hA0, hV, rfl, hfz, hnd⟩ := hW
  have hA : DataW.TrodAll enc Try.prog W 0 (fun _ => true) true Try.f4.params.toList args.toList ds p := hA0
  rw [Try.params4] at hA hval
  obtain ⟨v0, vs0, d0, ds0, p0, q0, hargs, rfl, rfl, h0, r0⟩ := trodAll_cons hA
  obtain ⟨v1, vs1, d1, ds1, p1, q1, rfl, rfl, rfl, h1, r1⟩ := trodAll_cons r0
  obtain ⟨v2, vs2, d2, ds2, p2, q2, rfl, rfl, rfl, h2, r2⟩ := trodAll_cons r1
  obtain ⟨rfl, rfl, rfl⟩ := trodAll_nil r2
  obtain rfl : args = #[v0, v1, v2] := by cases args; simp_all
  obtain ⟨rfl, rfl⟩ := trodVars_none hV
  have lt0 : ∀ x ∈ p0, x.block < W.heap.size := by obtain ⟨m, hm⟩ := h0; exact DataW.trod_lt m _ _ _ hm
  have lt1 : ∀ x ∈ p1, x.block < W.heap.size := by obtain ⟨m, hm⟩ := h1; exact DataW.trod_lt m _ _ _ hm
  have lt2 : ∀ x ∈ p2, x.block < W.heap.size := by obtain ⟨m, hm⟩ := h2; exact DataW.trod_lt m _ _ _ hm
  obtain ⟨aA, an, ac, aL, ⟨a1, a2, a3⟩, rfl⟩ := open_bytes (hval 0 22 v0 rfl rfl) h0
  obtain ⟨b, wb, rfl⟩ := open_u64 (hval 1 23 v1 rfl rfl) h1
  obtain ⟨c, wc, rfl⟩ := open_i64 (hval 2 3 v2 rfl rfl) h2
  clear hA0 hval0
  refine (vars_law a1 (by omega) a3 b wb c wc).mono fun e W' ⟨he, bel⟩ => ?_
  subst he
  exact ⟨_, rfl, _, _, _, [], _, [], hW', trodAll_mk1 (shut_bool Try.underlying4 _), (trodAll_cons_mk (Below.trod Try.laidOut (by kernel_rfl) (of_decide_eq_true (by kernel_rfl)) h0 bel lt0) (trodAll_cons_mk (Below.trod Try.laidOut (by kernel_rfl) (of_decide_eq_true (by kernel_rfl)) h1 bel lt1) (trodAll_cons_mk (Below.trod Try.laidOut (by kernel_rfl) (of_decide_eq_true (by kernel_rfl)) h2 bel lt2) trodAll_mk0))), rfl, bel.frame _, fun h => by cases h⟩

theorem octetVars_holds : Rows.OctetVarsSaid :=
  OpenClaim.holds_of_wide 4 Try.f4 rfl rfl rfl rfl rfl rfl rfl ⟨rfl, rfl, rfl, rfl, rfl⟩ rfl rfl rfl rfl rfl (by kernel_rfl) Try.func4 (by kernel_rfl)
    (of_decide_eq_true (by kernel_rfl)) (by unfold Func.isWrapper; rw [if_neg (of_decide_eq_false (by kernel_rfl))]; exact ⟨rfl, rfl⟩)
    (fun os started H enc _ => octetVars_lifted os started H enc)

end Go.Proofs.Ytcnmplkljpkheaa
