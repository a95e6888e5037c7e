/- Whether a transaction is a mint: the program's, and the reference's. No condition. -/
import Derived.Test.YtbdjcbdnhaddoaaDoorRefMay
namespace Go.Proofs.YtbdjcbdnhaddoaaDoor
open Go.RowKit

section
variable {w : World} {o : Oper} {a : Act} {Q : Exit → Act → World → Prop} {K : Act → World → Prop} {T : TypeId} {n b k : Nat} {vs : List Value} {d : Option Tmp}
theorem wp_load_part (hd : o.dst = d) (x : Operand) (ho : o.op = .load T x) (hx : a.eval x = .pointer (some ⟨b, k, none⟩)) (hT : IsRow T n) (hr : w.rangeAt b k vs) (hl : vs.length = n) (h : K (a.put d (.agg vs.toArray)) w) : o.wp Tryd.prog a w K Q := by
  subst hd
  unfold Oper.wp execOp
  obtain ⟨⟨f, h1⟩ | ⟨j, e, h1⟩, h3⟩ := hT
  · simp only [ho, hx, Instr.loadAt, Instr.sureAddr, Sem.run_bind, Sem.run_pure, Result.andThen_ok, run_loadVar_mid w b k T vs _ hr h1 rfl (by rw [h3]; simp [hl])]
    exact h
  · simp only [ho, hx, Instr.loadAt, Instr.sureAddr, Sem.run_bind, Sem.run_pure, Result.andThen_ok, run_loadVar_mid w b k T vs _ hr h1 rfl (by rw [h3]; simp [hl])]
    exact h
theorem wp_buildR (hd : o.dst = d) (T : TypeId) (parts : Array (Nat × Operand)) (ho : o.op = .build T parts) {us : Array (Nat × Value)} {v : Value} (hx : (parts.map fun y => (y.1, a.eval y.2)) = us) (hrun : (Instr.build T us).run Tryd.prog w = .ok v w)
    (h : K (a.put d v) w) : o.wp Tryd.prog a w K Q := by
  subst hd
  have hx' : (parts.map fun (x : Nat × Operand) => match x with | (i, x) => (i, a.eval x)) = us := hx
  unfold Oper.wp execOp
  simp only [ho, Sem.run_bind, hx', hrun, Result.andThen_ok, Sem.run_pure]
  exact h
end

set_option maxRecDepth 100000 in
set_option maxHeartbeats 4000000 in
theorem txMint_any {t : TxD} {Ai : Option Addr} {ni ci : Nat} {Ao : Option Addr} {no co : Nat} (w : World) (hT : TxR w t Ai ni ci Ao no co) :
    Calls Tryd.prog 21 #[.agg (txV t.ver Ai ni ci Ao no co t.lock).toArray] w fun e w' => e = .returned (.bool (mintS t)) ∧ Below w.heap.size w w' := by
  have NI := Lib.hid hT.ins.len
  have okT := Lib.hid hT.ok
  have hni := hT.i2
  have b0 := (Below.refl w.heap.size w).alloc (Nat.le_refl _) (.cells (txV t.ver Ai ni ci Ao no co t.lock).toArray 26)
  have r0 := Ro.new w 26 (txV t.ver Ai ni ci Ao no co t.lock)
  have HT := Lib.hid (hT.later b0)
  obtain ⟨wb, hwb⟩ : ∃ wb, w.alloc (.cells (txV t.ver Ai ni ci Ao no co t.lock).toArray 26) = wb := ⟨_, rfl⟩
  rw [hwb] at b0 r0 HT
  obtain ⟨bx, hbx⟩ : ∃ q, w.heap.size = q := ⟨_, rfl⟩
  rw [hbx] at r0
  have B0 := Lib.hid b0
  have a1 := r0.cell (k := 1) (v := .slice Ai ni ci) rfl
  obtain ⟨V, hV⟩ : ∃ V, txV t.ver Ai ni ci Ao no co t.lock = V := ⟨_, rfl⟩
  rw [hV] at hwb ⊢
  clear hT b0 r0 hV
  by_cases h1 : ni = 1
  · subst h1
    obtain ⟨i, hi, htk, him⟩ := getL NI.out (show 0 < 1 by decide)
    have okI := Lib.hid (okT.out.ins i him)
    have TI := Lib.hid (show t.ins = [i] by
      have h5 := htk
      rw [List.take_zero, List.nil_append, List.take_of_length_le (by rw [NI.out]; exact Nat.le_refl _)] at h5
      exact h5)
    have MI := Lib.hid (mint_one TI.out)
    obtain ⟨b1, o1, _, rfl, _⟩ := HT.out.ins.cel (by decide)
    have ad1 := add_at b1 o1
    obtain ⟨hb1, V1, hV1, hr1, As, ns, cs, Aw, nw, cw, rfl, hI⟩ := HT.out.ins.nth hi
    rw [Nat.zero_mul, Nat.add_zero] at hr1
    have R1 := Lib.hid (from_range hr1)
    have l1 := Lib.hid (fromV_len okI.out.h i.n)
    have EQ := eq_place (n := i.n) (m := 4294967295) okI.out.h (show (List.replicate 32 0).length = 32 from rfl)
    obtain ⟨q, hq⟩ : ∃ q, decide ((i.h, i.n) = (List.replicate 32 0, 4294967295)) = q := ⟨_, rfl⟩
    rw [hq] at EQ MI
    have BF := Lib.hid build_from
    obtain ⟨F1, hF1⟩ : ∃ F, fromV i.h i.n = F := ⟨_, rfl⟩
    obtain ⟨F2, hF2⟩ : ∃ F, fromV (List.replicate 32 0) 4294967295 = F := ⟨_, rfl⟩
    rw [hF1] at EQ l1 R1
    rw [hF2] at EQ BF
    clear hi htk him hV1 hr1 hb1 hI hF1 hF2 hq
    have t0 : ((1 : Int) == 1) = true := rfl
    go_enter Tryd.func21, Tryd.ntmps21
    go_wp2_with (first | (refine BigFrame.wpList_want (by rfl) fun K hK => wp_load_part rfl (.tmp 11) rfl rfl rowPlace R1.out l1.out (hK _ _ ?_)) | (refine BigFrame.wpList_want (by rfl) fun K hK => wp_buildR rfl 53 #[(1, .const (.int .u32 4294967295))] rfl (us := #[(1, .int .u32 4294967295)]) (by simp [go_sem]) (BF.out _) (hK _ _ ?_)))
    go_ret
    exact ⟨by rw [MI.out]; rfl, B0.out⟩
  · have t0 : ((ni : Int) == 1) = false := by rw [beq_eq_false_iff_ne]; omega
    have MN := Lib.hid (mint_no NI.out h1)
    clear h1
    go_enter Tryd.func21, Tryd.ntmps21
    go_wp2_with fail
    go_ret
    exact ⟨by rw [MN.out]; rfl, B0.out⟩

set_option maxRecDepth 100000 in
set_option maxHeartbeats 4000000 in
theorem refMint_any {t : TxD} {Ai : Option Addr} {ni ci : Nat} {Ao : Option Addr} {no co : Nat} (w : World) (hT : TxR w t Ai ni ci Ao no co) :
    Calls Tryd.prog 22 #[.agg (txV t.ver Ai ni ci Ao no co t.lock).toArray] w fun e w' => e = .returned (.bool (mintS t)) ∧ Below w.heap.size w w' := by
  have NI := Lib.hid hT.ins.len
  have okT := Lib.hid hT.ok
  have hni := hT.i2
  have b0 := (Below.refl w.heap.size w).alloc (Nat.le_refl _) (.cells (txV t.ver Ai ni ci Ao no co t.lock).toArray 26)
  have r0 := Ro.new w 26 (txV t.ver Ai ni ci Ao no co t.lock)
  have HT := Lib.hid (hT.later b0)
  obtain ⟨wb, hwb⟩ : ∃ wb, w.alloc (.cells (txV t.ver Ai ni ci Ao no co t.lock).toArray 26) = wb := ⟨_, rfl⟩
  rw [hwb] at b0 r0 HT
  obtain ⟨bx, hbx⟩ : ∃ q, w.heap.size = q := ⟨_, rfl⟩
  rw [hbx] at r0
  have B0 := Lib.hid b0
  have a1 := r0.cell (k := 1) (v := .slice Ai ni ci) rfl
  obtain ⟨V, hV⟩ : ∃ V, txV t.ver Ai ni ci Ao no co t.lock = V := ⟨_, rfl⟩
  rw [hV] at hwb ⊢
  clear hT b0 r0 hV
  by_cases h1 : ni = 1
  · subst h1
    obtain ⟨i, hi, htk, him⟩ := getL NI.out (show 0 < 1 by decide)
    have okI := Lib.hid (okT.out.ins i him)
    have TI := Lib.hid (show t.ins = [i] by
      have h5 := htk
      rw [List.take_zero, List.nil_append, List.take_of_length_le (by rw [NI.out]; exact Nat.le_refl _)] at h5
      exact h5)
    have MI := Lib.hid (mint_one TI.out)
    obtain ⟨b1, o1, _, rfl, _⟩ := HT.out.ins.cel (by decide)
    have ad1 := add_at b1 o1
    obtain ⟨hb1, V1, hV1, hr1, As, ns, cs, Aw, nw, cw, rfl, hI⟩ := HT.out.ins.nth hi
    rw [Nat.zero_mul, Nat.add_zero] at hr1
    have R1 := Lib.hid (from_range hr1)
    have l1 := Lib.hid (fromV_len okI.out.h i.n)
    have EQ := eq_place (n := i.n) (m := 4294967295) okI.out.h (show (List.replicate 32 0).length = 32 from rfl)
    obtain ⟨q, hq⟩ : ∃ q, decide ((i.h, i.n) = (List.replicate 32 0, 4294967295)) = q := ⟨_, rfl⟩
    rw [hq] at EQ MI
    have BF := Lib.hid build_from
    obtain ⟨F1, hF1⟩ : ∃ F, fromV i.h i.n = F := ⟨_, rfl⟩
    obtain ⟨F2, hF2⟩ : ∃ F, fromV (List.replicate 32 0) 4294967295 = F := ⟨_, rfl⟩
    rw [hF1] at EQ l1 R1
    rw [hF2] at EQ BF
    clear hi htk him hV1 hr1 hb1 hI hF1 hF2 hq
    have t0 : ((1 : Int) == 1) = true := rfl
    go_enter Tryd.func22, Tryd.ntmps22
    go_wp2_with (first | (refine BigFrame.wpList_want (by rfl) fun K hK => wp_load_part rfl (.tmp 11) rfl rfl rowPlace R1.out l1.out (hK _ _ ?_)) | (refine BigFrame.wpList_want (by rfl) fun K hK => wp_buildR rfl 53 #[(1, .const (.int .u32 4294967295))] rfl (us := #[(1, .int .u32 4294967295)]) (by simp [go_sem]) (BF.out _) (hK _ _ ?_)))
    go_ret
    exact ⟨by rw [MI.out]; rfl, B0.out⟩
  · have t0 : ((ni : Int) == 1) = false := by rw [beq_eq_false_iff_ne]; omega
    have MN := Lib.hid (mint_no NI.out h1)
    clear h1
    go_enter Tryd.func22, Tryd.ntmps22
    go_wp2_with fail
    go_ret
    exact ⟨by rw [MN.out]; rfl, B0.out⟩
end Go.Proofs.YtbdjcbdnhaddoaaDoor
