/- TxCounts: how long counts are. Condition: the tables lie as laid. -/
import Derived.Test.YtbdjcbdnhaddoaaDoorLawL
import Derived.Deep.Cut
import Derived.Deep.CutRange
import Derived.Lib.EndianBits
namespace Go.Proofs.YtbdjcbdnhaddoaaDoor
open Go.RowKit

theorem join2 {k : Nat} (h : k < 65536) : bits BinOp.or IntKind.u64 ((k : Int) % 256) ((k : Int) / 256 % 256 * 256) = (k : Int) := by
  rw [u64_or8 ((k : Int) % 256) ((k : Int) / 256 % 256 * 256) (by omega) (by omega) (by omega) (by omega) (by omega)]
  omega
theorem join4 {k : Nat} (h : k < 4294967296) : bits BinOp.or IntKind.u64 (bits BinOp.or IntKind.u64 (bits BinOp.or IntKind.u64 ((k : Int) % 256) ((k : Int) / 256 % 256 * 256)) ((k : Int) / 256 / 256 % 256 * 65536)) ((k : Int) / 256 / 256 / 256 % 256 * 16777216) = (k : Int) := by
  rw [u64_or8 ((k : Int) % 256) ((k : Int) / 256 % 256 * 256) (by omega) (by omega) (by omega) (by omega) (by omega), u64_or16 ((k : Int) % 256 + (k : Int) / 256 % 256 * 256) ((k : Int) / 256 / 256 % 256 * 65536) (by omega) (by omega) (by omega) (by omega) (by omega), u64_or24 ((k : Int) % 256 + (k : Int) / 256 % 256 * 256 + (k : Int) / 256 / 256 % 256 * 65536) ((k : Int) / 256 / 256 / 256 % 256 * 16777216) (by omega) (by omega) (by omega) (by omega) (by omega)]
  omega
set_option maxRecDepth 100000 in
set_option maxHeartbeats 8000000 in
theorem counts_law {n : Nat} {w : World} (_ : n < 4294967296) (hLd : Laid w) :
    Calls Tryd.prog 7 #[.int .u32 (n : Nat)] w fun e w' => e = .returned (.bool true) ∧ Below w.heap.size w w' := by
  have HD := Lib.hid hLd
  have z0 := zeroTx
  obtain ⟨k, hk⟩ : ∃ k, n % 70001 = k := ⟨_, rfl⟩
  have HK : Hid (k ≤ 70000) := Lib.hid (by omega)
  have k0 : (n : Int) % 70001 = (k : Int) := by omega
  have k1 : IntKind.i64.wrap (k : Int) = (k : Int) := IntWalk.i64_in _ ⟨by omega, by omega⟩
  have k2 : IntKind.u64.wrap (k : Int) = (k : Int) := IntWalk.u64_in _ ⟨by omega, by omega⟩
  have MK : Hid (∀ W : World, (Instr.makeSlice 29 (.int .i64 (k : Int)) (.int .i64 (k : Int))).run Tryd.prog W = .ok (.slice (some ⟨W.heap.size, 0, none⟩) k k) (W.alloc (.cells (vals (List.replicate k 0)).toArray 5))) := Lib.hid (fun W => run_make_bytes k k _ _ rfl rfl (Nat.le_refl _) (by omega) W)
  have CS := Lib.hid (small_any w)
  clear hLd hk
  go_enter Tryd.func7, Tryd.ntmps7
  go_wp2_with (first | (go_at_call 28; refine CS.out.mono ?_; rintro e w1 ⟨g1, g2, g3, rfl, S1, Q1, hg3, B1⟩; have HG3 := Lib.hid hg3; clear hg3; have HS1 := Lib.hid S1; have HQ1 := Lib.hid Q1; have HB1 := Lib.hid B1; clear S1 Q1 B1 CS) | (refine wpList_store_ro rfl (.tmp 4) (.tmp 12) rfl (vs := txV 1 (some ⟨g1, 0, none⟩) 1 1 (some ⟨g2, 0, none⟩) 1 1 0) rfl rfl rowTx (Ro.new w1 26 zTx) rfl rfl (txV_one _ _ _ _ _ _ _ _) ?_))
  intro w2 R2 g2'
  have b2 := box_store g2'
  have P2 := Lib.hid R2
  have S2 := Lib.hid (HS1.out.later b2)
  have W2 := Lib.hid (HB1.out.trans (b2.mono HB1.out.size))
  obtain ⟨p, hp⟩ : ∃ p, w1.heap.size = p := ⟨_, rfl⟩
  have gp : Hid (g1 < p ∧ g2 < p ∧ w.heap.size ≤ p) := Lib.hid ⟨by rw [← hp]; exact HS1.out.i.lt, by rw [← hp]; exact HS1.out.o.lt, by rw [← hp]; exact HB1.out.size⟩
  rw [hp] at P2 ⊢
  clear R2 g2' b2 hp HS1 HQ1 HB1
  go_upto_region 3 with fail
  go_cut [] from 13 to 18 (fun wx => LongB w wx p g1 g2 k)
  case first =>
    have mk := MK.out
    have c2 := P2.out.cell (k := 2) (v := .slice (some ⟨g2, 0, none⟩) 1 1) rfl
    have b3 := (Below.refl w2.heap.size w2).alloc (Nat.le_refl _) (.cells (vals (List.replicate k 0)).toArray 5)
    have c3 := (P2.out.later b3).cell (k := 2) (v := .slice (some ⟨g2, 0, none⟩) 1 1) rfl
    have c4 := (S2.out.o.later b3).cell (k := 1) (v := .slice (some ⟨g3, 0, none⟩) 1 1) rfl
    have f3 := (S2.out.o.later b3).free 1
    have gq := gp
    clear b3
    go_region
    go_wp2_with fail
    go_meet
    exact long_box S2.out P2.out gq.out W2.out (by have := HK.out; omega) (Below.drew (Below.refl _ _))
  case rest =>
    have HB := Lib.hid hcut
    clear hcut S2 W2 P2 gp HG3 MK
    obtain ⟨B9, hB9⟩ : ∃ B9, bareS (smallT (List.replicate k 0)) = B9 := ⟨_, rfl⟩
    have hwt : weigh (smallT (List.replicate k 0)) ≤ 100000000 := smallT_w (by rw [List.length_replicate]; have := HK.out; omega)
    have CP := txBare_any (t := smallT (List.replicate k 0)) wc hwt HB.out.t.r
    rw [hB9] at CP
    have HCP := Lib.hid CP
    clear CP hwt
    by_cases q1 : k < 253
    · have d1 : decide ((252 : Int) < (k : Int)) = false := decide_eq_false (by omega)
      have d2 : decide ((65535 : Int) < (k : Int)) = false := decide_eq_false (by omega)
      have m1 : IntKind.u8.wrap (k : Int) = (k : Int) := IntWalk.u8_in _ ⟨by omega, by omega⟩
      have e1 : ((k : Int) == (k : Int)) = true := by simp
      obtain ⟨h55, hl⟩ := at1 q1
      rw [hB9] at h55 hl
      have ad : IntKind.i64.wrap ((60 : Int) + (k : Int)) = ((60 + k : Nat) : Int) := (by push_cast; exact IntWalk.i64_in _ ⟨by omega, by have := HK.out; omega⟩)
      have ae : (((60 + k : Nat) : Int) != ((60 + k : Nat) : Int)) = false := by simp
      have HL := Lib.hid hl
      have H55 := Lib.hid h55
      clear h55 hl hB9
      go_upto_region 13 with (first
        | (refine wpList_load_part rfl (.tmp 4) rfl rfl rowTx HB.out.p.whole rfl ?_)
        | (go_at_call 15; refine HCP.out.mono ?_; rintro e w5 ⟨A5, n5, c5, rfl, hc5, O5⟩; obtain rfl : 60 + k = n5 := HL.out.symm.trans O5.len; have HO5 := Lib.hid O5; clear O5 HCP))
      obtain ⟨g, hg⟩ : ∃ g, A5 = some ⟨g, 0, none⟩ := by
        obtain ⟨g, cap, hv, _, _⟩ := HO5.out.row.form (by omega)
        injection hv with hv
        exact ⟨g, hv⟩
      subst hg
      have R5 := HO5.out.reads
      have W5 := Lib.hid (HB.out.bel.trans (HO5.out.bel.mono HB.out.bel.size))
      have LD := Lib.hid (HD.out.later HD.out.lt W5.out)
      have ck : ∀ j, j < 60 + k → w5.cell? ⟨g, j, none⟩ = some (.int .u8 (nth B9 j : Nat)) := fun j hj => by
        obtain ⟨a, e, _, h⟩ := R5.cel (by omega)
        injection e with e
        subst e
        have := h j hj
        rwa [show (⟨g, 0, none⟩ : Addr).add j = ⟨g, j, none⟩ by unfold Addr.add; split <;> simp_all] at this
      have c55 : w5.cell? ⟨g, 55, none⟩ = some (.int .u8 ((nth B9 55 : Nat) : Int)) := ck 55 (by omega)
      rw [H55.out] at c55
      clear ck R5 HO5 HB
      go_wp2_with (first
        | (go_at_call 12; refine (works_any _ LD.out).mono ?_; rintro e w9 ⟨rfl, b9⟩; have B9' := Lib.hid b9; clear b9))
      go_ret
      exact ⟨rfl, W5.out.trans (B9'.out.mono W5.out.size)⟩
    · by_cases q2 : k < 65536
      · have d1 : decide ((252 : Int) < (k : Int)) = true := decide_eq_true (by omega)
        have d2 : decide ((65535 : Int) < (k : Int)) = false := decide_eq_false (by omega)
        obtain ⟨h55, h56, h57, hl⟩ := at3 (n := k) (by omega) q2
        rw [hB9] at h55 h56 h57 hl
        have ad : IntKind.i64.wrap ((62 : Int) + (k : Int)) = ((62 + k : Nat) : Int) := (by push_cast; exact IntWalk.i64_in _ ⟨by omega, by have := HK.out; omega⟩)
        have ae : (((62 + k : Nat) : Int) != ((62 + k : Nat) : Int)) = false := by simp
        have HL := Lib.hid hl
        have H55 := Lib.hid h55
        have H56 := Lib.hid h56
        have H57 := Lib.hid h57
        clear h55 h56 h57 hl hB9
        go_upto_region 13 with (first
          | (refine wpList_load_part rfl (.tmp 4) rfl rfl rowTx HB.out.p.whole rfl ?_)
          | (go_at_call 15; refine HCP.out.mono ?_; rintro e w5 ⟨A5, n5, c5, rfl, hc5, O5⟩; obtain rfl : 62 + k = n5 := HL.out.symm.trans O5.len; have HO5 := Lib.hid O5; clear O5 HCP))
        obtain ⟨g, hg⟩ : ∃ g, A5 = some ⟨g, 0, none⟩ := by
          obtain ⟨g, cap, hv, _, _⟩ := HO5.out.row.form (by omega)
          injection hv with hv
          exact ⟨g, hv⟩
        subst hg
        have R5 := HO5.out.reads
        have W5 := Lib.hid (HB.out.bel.trans (HO5.out.bel.mono HB.out.bel.size))
        have LD := Lib.hid (HD.out.later HD.out.lt W5.out)
        have ck : ∀ j, j < 62 + k → w5.cell? ⟨g, j, none⟩ = some (.int .u8 (nth B9 j : Nat)) := fun j hj => by
          obtain ⟨a, e, _, h⟩ := R5.cel (by omega)
          injection e with e
          subst e
          have := h j hj
          rwa [show (⟨g, 0, none⟩ : Addr).add j = ⟨g, j, none⟩ by unfold Addr.add; split <;> simp_all] at this
        have c55 : w5.cell? ⟨g, 55, none⟩ = some (.int .u8 ((nth B9 55 : Nat) : Int)) := ck 55 (by omega)
        have c56 : w5.cell? ⟨g, 56, none⟩ = some (.int .u8 ((nth B9 56 : Nat) : Int)) := ck 56 (by omega)
        have c57 : w5.cell? ⟨g, 57, none⟩ = some (.int .u8 ((nth B9 57 : Nat) : Int)) := ck 57 (by omega)
        rw [H55.out] at c55
        rw [H56.out] at c56
        rw [H57.out] at c57
        clear ck R5 HO5 HB
        go_upto_region 17 with fail
        go_cut [8] from 40 to 49 (fun v wx => v = .int .u64 (k : Int) ∧ Below w5.heap.size w5 wx)
        case first =>
          go_quiet (fail)
          go_wp2_with fail
          go_meet
          have hb := HK.out
          rw [join2 q2]
          exact ⟨rfl, ⟨rfl, rfl, rfl, Nat.le_refl _, fun _ _ => rfl⟩⟩
        case rest =>
          obtain ⟨rfl, bx⟩ := hcut
          have cx := cell_later bx c55
          have WX := Lib.hid (W5.out.trans (bx.mono W5.out.size))
          have LX := Lib.hid (HD.out.later HD.out.lt WX.out)
          have e1 : ((k : Int) == (k : Int)) = true := by simp
          clear bx LD
          go_wp2_with (first
            | (go_at_call 12; refine (works_any _ LX.out).mono ?_; rintro e w9 ⟨rfl, b9⟩; have B9' := Lib.hid b9; clear b9))
          go_ret
          exact ⟨rfl, WX.out.trans (B9'.out.mono WX.out.size)⟩
      · have d1 : decide ((252 : Int) < (k : Int)) = true := decide_eq_true (by omega)
        have d2 : decide ((65535 : Int) < (k : Int)) = true := decide_eq_true (by omega)
        obtain ⟨h55, h56, h57, h58, h59, hl⟩ := at5 (n := k) (by omega) (by have := HK.out; omega)
        rw [hB9] at h55 h56 h57 h58 h59 hl
        have ad : IntKind.i64.wrap ((64 : Int) + (k : Int)) = ((64 + k : Nat) : Int) := (by push_cast; exact IntWalk.i64_in _ ⟨by omega, by have := HK.out; omega⟩)
        have ae : (((64 + k : Nat) : Int) != ((64 + k : Nat) : Int)) = false := by simp
        have HL := Lib.hid hl
        have H55 := Lib.hid h55
        have H56 := Lib.hid h56
        have H57 := Lib.hid h57
        have H58 := Lib.hid h58
        have H59 := Lib.hid h59
        clear h55 h56 h57 h58 h59 hl hB9
        go_upto_region 13 with (first
          | (refine wpList_load_part rfl (.tmp 4) rfl rfl rowTx HB.out.p.whole rfl ?_)
          | (go_at_call 15; refine HCP.out.mono ?_; rintro e w5 ⟨A5, n5, c5, rfl, hc5, O5⟩; obtain rfl : 64 + k = n5 := HL.out.symm.trans O5.len; have HO5 := Lib.hid O5; clear O5 HCP))
        obtain ⟨g, hg⟩ : ∃ g, A5 = some ⟨g, 0, none⟩ := by
          obtain ⟨g, cap, hv, _, _⟩ := HO5.out.row.form (by omega)
          injection hv with hv
          exact ⟨g, hv⟩
        subst hg
        have R5 := HO5.out.reads
        have W5 := Lib.hid (HB.out.bel.trans (HO5.out.bel.mono HB.out.bel.size))
        have LD := Lib.hid (HD.out.later HD.out.lt W5.out)
        have ck : ∀ j, j < 64 + k → w5.cell? ⟨g, j, none⟩ = some (.int .u8 (nth B9 j : Nat)) := fun j hj => by
          obtain ⟨a, e, _, h⟩ := R5.cel (by omega)
          injection e with e
          subst e
          have := h j hj
          rwa [show (⟨g, 0, none⟩ : Addr).add j = ⟨g, j, none⟩ by unfold Addr.add; split <;> simp_all] at this
        have c55 : w5.cell? ⟨g, 55, none⟩ = some (.int .u8 ((nth B9 55 : Nat) : Int)) := ck 55 (by omega)
        have c56 : w5.cell? ⟨g, 56, none⟩ = some (.int .u8 ((nth B9 56 : Nat) : Int)) := ck 56 (by omega)
        have c57 : w5.cell? ⟨g, 57, none⟩ = some (.int .u8 ((nth B9 57 : Nat) : Int)) := ck 57 (by omega)
        have c58 : w5.cell? ⟨g, 58, none⟩ = some (.int .u8 ((nth B9 58 : Nat) : Int)) := ck 58 (by omega)
        have c59 : w5.cell? ⟨g, 59, none⟩ = some (.int .u8 ((nth B9 59 : Nat) : Int)) := ck 59 (by omega)
        rw [H55.out] at c55
        rw [H56.out] at c56
        rw [H57.out] at c57
        rw [H58.out] at c58
        rw [H59.out] at c59
        clear ck R5 HO5 HB
        go_upto_region 19 with fail
        go_cut [8] from 52 to 73 (fun v wx => v = .int .u64 (k : Int) ∧ Below w5.heap.size w5 wx)
        case first =>
          go_quiet (fail)
          go_wp2_with fail
          go_meet
          have hb := HK.out
          rw [join4 (k := k) (by omega)]
          exact ⟨rfl, ⟨rfl, rfl, rfl, Nat.le_refl _, fun _ _ => rfl⟩⟩
        case rest =>
          obtain ⟨rfl, bx⟩ := hcut
          have cx := cell_later bx c55
          have WX := Lib.hid (W5.out.trans (bx.mono W5.out.size))
          have LX := Lib.hid (HD.out.later HD.out.lt WX.out)
          have e1 : ((k : Int) == (k : Int)) = true := by simp
          clear bx LD
          go_wp2_with (first
            | (go_at_call 12; refine (works_any _ LX.out).mono ?_; rintro e w9 ⟨rfl, b9⟩; have B9' := Lib.hid b9; clear b9))
          go_ret
          exact ⟨rfl, WX.out.trans (B9'.out.mono WX.out.size)⟩
end Go.Proofs.YtbdjcbdnhaddoaaDoor
