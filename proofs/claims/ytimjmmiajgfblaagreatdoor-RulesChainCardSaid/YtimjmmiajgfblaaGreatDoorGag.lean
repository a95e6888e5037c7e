/- The sum of a state's bytes, as the code reckons it. No condition but a bound on the length. -/
import Derived.Test.YtimjmmiajgfblaaGreatDoorGaf
import Derived.Test.YtimjmmiajgfblaaGreatDoorGae
import Derived.Test.YtimjmmiajgfblaaGreatDoorGad

namespace Go.Proofs.YtimjmmiajgfblaaGreatDoor
open Go.RowKit

/-! What the last piece is. -/
theorem part_set (L : List Nat) : (partL L).set (L.length % 64) 128 = endB L := by
  unfold partL endB
  rw [List.set_append_right _ _ (by rw [rest_len]; exact Nat.le_refl _), rest_len, Nat.sub_self, show 64 - L.length % 64 = (63 - L.length % 64) + 1 by omega, List.replicate_succ]
  rfl
theorem endA_len {L : List Nat} (h : L.length % 64 < 56) : (endA L).length = 56 := by
  unfold endA; rw [List.length_append, rest_len, List.length_cons, List.length_replicate]; omega
theorem endB_len (L : List Nat) : (endB L).length = 64 := by rw [← part_set, List.length_set, partL_len]
theorem endB_short {L : List Nat} (h : L.length % 64 < 56) : endB L = endA L ++ upW [] 8 := by
  unfold endB endA upW
  rw [show 63 - L.length % 64 = (55 - L.length % 64) + 8 by omega, ← List.replicate_append_replicate]
  simp
theorem endB_byt {L : List Nat} (h : AllB L) : AllB (endB L) := AllB.app (fun x hx => h x (List.mem_of_mem_drop hx)) (AllB.app (L := [128]) (allB_one (by decide)) (allB_zeros _))
theorem endA_byt {L : List Nat} (h : AllB L) : AllB (endA L) := AllB.app (fun x hx => h x (List.mem_of_mem_drop hx)) (AllB.app (L := [128]) (allB_one (by decide)) (allB_zeros _))
theorem bits8_byt (n : Nat) : AllB (bits8 n) := fun x hx => by
  simp only [bits8, List.mem_map] at hx
  obtain ⟨i, _, rfl⟩ := hx
  exact Nat.mod_lt _ (by decide)
theorem bits8_get (n i : Nat) (h : i < 8) : (bits8 n)[i]? = some (n * 8 % 18446744073709551616 / 2 ^ (56 - 8 * i) % 256) := by
  simp [bits8, h]
def upB (Z : List Nat) (n i : Nat) : List Nat := Z ++ upW ((bits8 n).take i) 8
theorem upB_next {Z : List Nat} (hZ : Z.length = 56) (n i x : Nat) (hi : i < 8) (hx : x = n * 8 % 18446744073709551616 / 2 ^ (56 - 8 * i) % 256) : (upB Z n i).set (56 + i) x = upB Z n (i + 1) := by
  unfold upB
  have hl : ((bits8 n).take i).length = i := by rw [List.length_take, bits8_len]; omega
  rw [List.set_append_right _ _ (by omega), hZ, Nat.add_sub_cancel_left]
  have h := upW_set (W := (bits8 n).take i) (n := 8) x (by omega)
  rw [hl] at h
  rw [h, hx, List.take_add_one, bits8_get n i hi]
  rfl
theorem upB_len {Z : List Nat} (hZ : Z.length = 56) (n i : Nat) (hi : i ≤ 8) : (upB Z n i).length = 64 := by
  unfold upB
  rw [List.length_append, hZ, upW_len (by rw [List.length_take]; omega)]
theorem upB_full (Z : List Nat) (n : Nat) : upB Z n 8 = Z ++ bits8 n := by
  unfold upB
  rw [List.take_of_length_le (by rw [bits8_len]; exact Nat.le_refl _), upW_full (bits8_len n)]

structure EnA (w : World) (B C : Nat) (H P : List Nat) (wr : World) : Prop where
  rs : Ro wr (w.heap.size + 1) 25 (vals (List.replicate 32 0))
  ws : Ro wr B 125 (u32s H)
  la : Ro wr C 126 (vals P)
  bel : Below w.heap.size w wr
section
variable {w : World} {B C : Nat} {H P : List Nat} {wr w1 : World}
theorem EnA.later (N : EnA w B C H P wr) (b : Below wr.heap.size wr w1) : EnA w B C H P w1 := ⟨N.rs.later b, N.ws.later b, N.la.later b, N.bel.trans (b.mono N.bel.size)⟩
theorem EnA.words {H' : List Nat} (N : EnA w B C H P wr) (hB : w.heap.size + 2 ≤ B) (ne : B ≠ C) (R : Ro w1 B 125 (u32s H')) (g : wr.grownBy w1 (some B)) : EnA w B C H' P w1 :=
  ⟨N.rs.far g (fun e => by injection e; omega), R, N.la.far g (fun e => by injection e; omega), N.bel.grown g N.bel.size (fun q e => by injection e; omega)⟩
theorem EnA.last {P' : List Nat} (N : EnA w B C H P wr) (hC : w.heap.size + 2 ≤ C) (ne : B ≠ C) (R : Ro w1 C 126 (vals P')) (g : wr.grownBy w1 (some C)) : EnA w B C H P' w1 :=
  ⟨N.rs.far g (fun e => by injection e; omega), N.ws.far g (fun e => by injection e; omega), R, N.bel.grown g N.bel.size (fun q e => by injection e; omega)⟩
theorem EnA.set (N : EnA w B C H P wr) (hC : w.heap.size + 2 ≤ C) (ne : B ≠ C) (k x : Nat) : EnA w B C H (P.set k x) (wr.setCell ⟨C, k, none⟩ (.int .u8 (x : Int))) :=
  ⟨N.rs.other (by omega) _, N.ws.other (by omega) _, N.la.set8 k x, N.bel.setCell (by simp; omega) _⟩
end

theorem quiet_load_part {o : Oper} {a : Act} {D : World → Prop} {K : Act → Prop} {T : TypeId} {n b k : Nat} {vs : List Value} (x : Operand) (ho : o.op = .load T x) (hx : a.eval x = .pointer (some ⟨b, k, none⟩)) (hT : IsRow T n)
    (hC : ∀ w, D w → w.rangeAt b k vs) (hl : vs.length = n) (hk : K (a.put o.dst (.agg vs.toArray))) : o.quiet Tryz.prog a D K :=
  ⟨.agg vs.toArray, fun w hw => by
    unfold Oper.quietAt execOp
    obtain ⟨⟨f, h1⟩ | ⟨j, e, h1⟩, h3⟩ := hT
    · simp only [ho, hx, Instr.loadAt, Instr.sureAddr, Sem.run_bind, Sem.run_pure, Result.andThen_ok, run_loadVar_mid w b k T vs _ (hC w hw) h1 rfl (by rw [h3]; simp [hl])]
      exact ⟨rfl, rfl⟩
    · simp only [ho, hx, Instr.loadAt, Instr.sureAddr, Sem.run_bind, Sem.run_pure, Result.andThen_ok, run_loadVar_mid w b k T vs _ (hC w hw) h1 rfl (by rw [h3]; simp [hl])]
      exact ⟨rfl, rfl⟩, hk⟩
theorem rangeAt_later {w w1 : World} {b k : Nat} {vs : List Value} {T : TypeId} {zs : List Value} (R : Ro w b T zs) (h : w.rangeAt b k vs) (g : Below w.heap.size w w1) : w1.rangeAt b k vs := fun j v hv => by
  rw [← h j v hv]; exact g.cell R.lt
theorem Ro.whole {w : World} {b : Nat} {T : TypeId} {zs : List Value} (R : Ro w b T zs) : w.rangeAt b 0 zs := fun j v hv => by rw [Nat.zero_add]; exact R.cell hv
theorem wp_store_ro {w : World} {o : Oper} {a : Act} {Q : Exit → Act → World → Prop} {K : Act → World → Prop} {T S : TypeId} {n b : Nat} {vs zs : List Value} (x y : Operand) (ho : o.op = .store T x y) (hx : a.eval x = .pointer (some ⟨b, 0, none⟩)) (hy : a.eval y = .agg vs.toArray) (hT : IsRow T n) (hr : Ro w b S zs) (hz : zs.length = n) (hl : vs.length = n) (h1 : ∀ u ∈ vs, u.oneCell' = true)
    (h : ∀ w', Ro w' b S vs → w.grownBy w' (some b) → K (a.put o.dst undef) w') : o.wp Tryz.prog a w K Q :=
  wp_store_row T x y ho b vs.toArray hx hy S zs.toArray hr (by rw [hT.info]; simp [hl]) (by simp [hz, hl]) (all_one h1) (h _ (setRow_heap w b _ _ _ _ hr) (grownBy_setRow w b _))

set_option maxRecDepth 100000 in
set_option maxHeartbeats 4000000 in
theorem end_any {L W : List Nat} (hW : WOf L W) (hL : AllB L) (hl : L.length < 2199023255552) (w : World) (hLd : Laid w) :
    Calls Tryz.prog 108 #[.agg (stV W (partL L) L.length).toArray] w fun e w' => e = .returned (.agg (vals (shaS L)).toArray) ∧ Below w.heap.size w w' := by
  have S0 := Ro.new w 128 (stV W (partL L) L.length)
  have S1 := S0.alloc (.cells (vals (List.replicate 32 0)).toArray 25)
  have R1 := Ro.new (w.alloc (.cells (stV W (partL L) L.length).toArray 128)) 25 (vals (List.replicate 32 0))
  rw [World.size_alloc] at R1
  have B1 := ((Below.refl w.heap.size w).alloc (Nat.le_refl _) (.cells (stV W (partL L) L.length).toArray 128)).alloc (by simp) (.cells (vals (List.replicate 32 0)).toArray 25)
  have HS1 := Lib.hid S1
  have HR1 := Lib.hid R1
  have HB1 := Lib.hid B1
  have HW := Lib.hid hW
  have HL := Lib.hid hL
  have HD := Lib.hid hLd
  clear hW hL hLd S0 S1 R1 B1
  obtain ⟨n, hn⟩ : ∃ n, L.length = n := ⟨_, rfl⟩
  rw [hn] at hl
  have HN := Lib.hid hn
  rw [hn] at HS1 HR1 HB1 ⊢
  clear hn
  have CS : Hid (∀ w1, Laid w1 → Calls Tryz.prog 111 #[.agg (stV W (partL L) n).toArray] w1 fun e w' => e = .returned (.agg (u32s (pieces L (n / 64))).toArray) ∧ Below w1.heap.size w1 w') := Lib.hid (by
    intro w1 h1
    have h := sum_any HW.out (by rw [HN.out]; omega) w1 h1
    rwa [HN.out] at h)
  go_enter Tryz.func108, Tryz.ntmps108
  go_wp2_with fail
  obtain ⟨W1, hW1⟩ : ∃ W1, W1 = ((w.alloc (.cells (stV W (partL L) n).toArray 128)).alloc (.cells (vals (List.replicate 32 0)).toArray 25)) := ⟨_, rfl⟩
  rw [← hW1] at HS1 HR1 HB1
  change Code.wp _ _ _ _ ((w.alloc (.cells (stV W (partL L) n).toArray 128)).alloc (.cells (vals (List.replicate 32 0)).toArray 25))
  rw [← hW1]
  clear hW1
  refine wp_region_grow 4 (by kernel_rfl) (Nat.le_of_ble_eq_true (by kernel_rfl)) (by kernel_rfl) (by kernel_rfl) (fun _ _ _ _ _ h => h) ?_
  apply Exists.intro
  refine ⟨?_, ?_⟩
  · intro wg hg
    simp only [List.take_succ_cons, List.take_zero]
    have SG := HS1.out.later hg
    have DG : ∀ u : After wg, Laid u.w := fun u => HD.out.later HD.out.lt ((HB1.out.trans (hg.mono HB1.out.size)).trans (u.below.mono (Nat.le_trans HB1.out.size hg.size)))
    have C : ∀ u : After wg, Calls Tryz.prog 111 #[.agg (stV W (partL L) n).toArray] u.w fun e w' => e = .returned (.agg (u32s (pieces L (n / 64))).toArray) ∧ Below u.w.heap.size u.w w' := fun u => CS.out u.w (DG u)
    have HC := Lib.hid C
    have HSG := Lib.hid SG
    clear C DG SG
    go_big_quiet_want
    refine quiet_load_part (.tmp 1) rfl rfl row38 (fun w9 h9 => by obtain ⟨u, rfl⟩ := h9; exact rangeAt_later HSG.out HSG.out.whole u.below) (stV_len HW.out.len (partL_len L)) ?_
    simp only [Act.put, List.setIfInBounds_toArray, List.set_cons_succ, List.set_cons_zero]
    go_big_quiet_on
    go_big_quiet_step (exact after_call (HC.out _))
    go_big_quiet_step (fail)
    go_big_quiet_want
    refine quiet_load_part (.tmp 10) rfl rfl row35 (fun w9 h9 => by obtain ⟨u, rfl⟩ := h9; exact rangeAt_later HSG.out (HSG.out.stP HW.out.len) u.below) (by rw [vals_length, partL_len]) ?_
    simp only [Act.put, List.setIfInBounds_toArray, List.set_cons_succ, List.set_cons_zero]
    go_big_quiet_on
    refine wpQuiet_nil ?_
    exact rfl
  intro wg hg
  show wpK _ _ _ _ _ 4 _ _ _
  refine wpK_box2 (f := 2) (i := 4) (k := 5) (c := (u32s (List.replicate 8 0)).toArray) (c2 := (vals (List.replicate 64 0)).toArray) (T := 125) (T2 := 126) (by kernel_rfl) (by kernel_rfl) (by kernel_rfl) (by decide) rfl rfl rfl rfl rfl rfl (by decide) (fun a w => by go_simp; rfl) (fun a w => by go_simp; rfl) hg ?_
  intro B C wh gh lB lC ne HB HC
  replace lB := Nat.le_trans hg.size lB
  replace lC := Nat.le_trans hg.size lC
  have ge := hg.trans gh
  clear hg gh
  refine wpK_one (f := 1) (i := 6) (by kernel_rfl) rfl rfl ?_
  intro wc gc K hK
  refine wp_store_ro (vs := u32s (pieces L (n / 64))) (.tmp 3) (.tmp 9) rfl rfl rfl row34 (HB.later gc) (by simp [u32s]) (by rw [u32s_len, pieces_len]) (u32s_one _) ?_
  intro wd RB gB
  refine hK _ _ ((ge.trans gc).grown gB (Nat.le_trans ge.size gc.size) (fun q e => by injection e; omega)) ?_
  have HC2 := Ro.far (HC.later gc) gB (fun e => by injection e; omega)
  replace ge : Grows W1 wd := (ge.trans gc).grown gB (Nat.le_trans ge.size gc.size) (fun q e => by injection e; omega)
  clear hK K gB gc HB HC
  refine wpK_one (f := 0) (i := 7) (by kernel_rfl) rfl rfl ?_
  intro we gc K hK
  refine wp_store_ro (vs := vals (partL L)) (.tmp 4) (.tmp 11) rfl rfl rfl row35 (HC2.later gc) (by simp [vals]) (by rw [vals_length, partL_len]) (vals_one _) ?_
  intro wf RC gC
  have RB2 := Ro.far (RB.later gc) gC (fun e => by injection e; omega)
  replace ge : Grows W1 wf := (ge.trans gc).grown gC (Nat.le_trans ge.size gc.size) (fun q e => by injection e; omega)
  refine hK _ _ ge ?_
  clear hK K gC gc HC2 RB
  refine wpK_end (by kernel_rfl) ?_
  intro wi gi
  have S3 := Lib.hid (HS1.out.later (ge.trans gi))
  have lW : w.heap.size + 2 ≤ W1.heap.size := by have := HR1.out.lt; omega
  have LB : Hid (w.heap.size + 2 ≤ B) := Lib.hid (Nat.le_trans lW lB)
  have LC : Hid (w.heap.size + 2 ≤ C) := Lib.hid (Nat.le_trans lW lC)
  have NE := Lib.hid ne
  have N3 : Hid (EnA w B C (pieces L (n / 64)) (partL L) wi) := Lib.hid ⟨HR1.out.later (ge.trans gi), RB2.later gi, RC.later gi, HB1.out.trans ((ge.trans gi).mono HB1.out.size)⟩
  clear ge gi RB2 RC HS1 HR1 HB1 lW lB lC ne
  have c0 := S3.out.stC HW.out.len (partL_len L)
  have hmod : n % 64 < 64 := Nat.mod_lt _ (by decide)
  obtain ⟨r, hr⟩ : ∃ r, n % 64 = r := ⟨_, rfl⟩
  rw [hr] at hmod
  have er : (n : Int) % 64 = (r : Int) := by omega
  have HR := Lib.hid hr
  have c1 := N3.out.la.u8 (k := r) (by rw [partL_len]; exact hmod)
  have f1 := N3.out.la.free r
  clear hr
  show Exit.then _ _ Exit.normal _ _
  have N4 : Hid (EnA w B C (pieces L (n / 64)) (endB L) (wi.setCell ⟨C, r, none⟩ (.int .u8 ((128 : Nat) : Int))) ∧ Ro (wi.setCell ⟨C, r, none⟩ (.int .u8 ((128 : Nat) : Int))) w.heap.size 128 (stV W (partL L) n)) := Lib.hid (by
    have h := N3.out.set LC.out NE.out r 128
    have e : (partL L).set r 128 = endB L := by rw [← HR.out, ← HN.out]; exact part_set L
    rw [e] at h
    exact ⟨h, S3.out.other (by have := LC.out; omega) _⟩)
  clear N3 S3
  by_cases hr56 : r < 56
  · have t1 : decide ((56 : Int) ≤ (r : Int)) = false := decide_eq_false (by omega)
    have hLr : L.length % 64 < 56 := by rw [HN.out, HR.out]; exact hr56
    have eB := endB_short hLr
    rw [eB] at N4
    obtain ⟨Z, hZ⟩ : ∃ Z, endA L = Z := ⟨_, rfl⟩
    obtain ⟨H, hH⟩ : ∃ H, pieces L (n / 64) = H := ⟨_, rfl⟩
    rw [hZ, hH] at N4
    have ZL : Hid (Z.length = 56) := Lib.hid (by rw [← hZ]; exact endA_len hLr)
    have ZB : Hid (AllB Z) := Lib.hid (by rw [← hZ]; exact endA_byt HL.out)
    have H8 : Hid (H.length = 8) := Lib.hid (by rw [← hH]; exact pieces_len _ _)
    have SH : Hid (bytesS (comp H (Z ++ bits8 n)) = shaS L) := Lib.hid (by rw [sha_short L hLr, HN.out, hZ, hH])
    rw [hH]
    clear hZ hH eB hLr
    have N5 : Hid (EnA w B C H (upB Z n 0) (wi.setCell ⟨C, r, none⟩ (.int .u8 ((128 : Nat) : Int))) ∧ Ro (wi.setCell ⟨C, r, none⟩ (.int .u8 ((128 : Nat) : Int))) w.heap.size 128 (stV W (partL L) n)) := Lib.hid N4.out
    clear N4
    have c72 := N5.out.2.stC HW.out.len (partL_len L)
    have wr8 : IntKind.u64.wrap ((n : Int) * 8) = ((n * 8 % 18446744073709551616 : Nat) : Int) := by rw [IntKind.wrap_u64]; omega
    go_wp2_with fail
    go_loopw [27] (fun i wr => ∃ t : Nat, t ≤ 8 ∧ i = .int .i64 (t : Nat) ∧ EnA w B C H (upB Z n t) wr) (fun i _ => 8 - (intOf i).toNat)
    case atStart => exact ⟨0, by omega, rfl, N5.out.1⟩
    case round =>
      clear N5
      obtain ⟨t, ht, rfl, N⟩ := hrel
      have HN5 := Lib.hid N
      clear N
      by_cases hlt : t < 8
      · have ca := HN5.out.la.u8 (k := 56 + t) (by rw [upB_len ZL.out n t ht]; omega)
        have fa := HN5.out.la.free (56 + t)
        have FN : Hid (∀ (V : Int) (D : Nat), D = 2 ^ (56 - 8 * t) → V = ((n * 8 % 18446744073709551616 / D % 256 : Nat) : Int) → EnA w B C H (upB Z n (t + 1)) (wr.setCell ⟨C, 56 + t, none⟩ (.int .u8 V))) := Lib.hid (fun V D hD hV => by
          subst hD
          subst hV
          have h := HN5.out.set LC.out NE.out (56 + t) (n * 8 % 18446744073709551616 / 2 ^ (56 - 8 * t) % 256)
          rwa [upB_next ZL.out n t _ hlt rfl] at h)
        have z8 : t = 0 ∨ t = 1 ∨ t = 2 ∨ t = 3 ∨ t = 4 ∨ t = 5 ∨ t = 6 ∨ t = 7 := by omega
        clear HN5 hlt ht
        rcases z8 with rfl | rfl | rfl | rfl | rfl | rfl | rfl | rfl
        · go_wp2_with fail
          exact ⟨⟨1, by omega, rfl, FN.out _ 72057594037927936 rfl (by omega)⟩, by simp [intOf]⟩
        · go_wp2_with fail
          exact ⟨⟨2, by omega, rfl, FN.out _ 281474976710656 rfl (by omega)⟩, by simp [intOf]⟩
        · go_wp2_with fail
          exact ⟨⟨3, by omega, rfl, FN.out _ 1099511627776 rfl (by omega)⟩, by simp [intOf]⟩
        · go_wp2_with fail
          exact ⟨⟨4, by omega, rfl, FN.out _ 4294967296 rfl (by omega)⟩, by simp [intOf]⟩
        · go_wp2_with fail
          exact ⟨⟨5, by omega, rfl, FN.out _ 16777216 rfl (by omega)⟩, by simp [intOf]⟩
        · go_wp2_with fail
          exact ⟨⟨6, by omega, rfl, FN.out _ 65536 rfl (by omega)⟩, by simp [intOf]⟩
        · go_wp2_with fail
          exact ⟨⟨7, by omega, rfl, FN.out _ 256 rfl (by omega)⟩, by simp [intOf]⟩
        · go_wp2_with fail
          exact ⟨⟨8, by omega, rfl, FN.out _ 1 rfl (by omega)⟩, by simp [intOf]⟩
      · obtain rfl : t = 8 := by omega
        rw [upB_full] at HN5
        go_wp2_with (first | (refine wpList_load_ro rfl (.tmp 3) rfl rfl row34 HN5.out.ws (by rw [u32s_len, H8.out]) ?_) | (refine wpList_load_ro rfl (.tmp 4) rfl rfl row35 HN5.out.la (by rw [vals_length, List.length_append, ZL.out, bits8_len]) ?_))
        refine (mix_any H8.out (by rw [List.length_append, ZL.out, bits8_len]) (ZB.out.app (bits8_byt _)) _ (HD.out.later HD.out.lt HN5.out.bel)).mono ?_
        rintro e w6 ⟨rfl, hb⟩
        have N6 := Lib.hid (HN5.out.later hb)
        clear hb HN5
        go_wp2_with fail
        refine (bytesOf_any (comp_len _ _) _).mono ?_
        rintro e w7 ⟨rfl, hb⟩
        have N7 := Lib.hid (N6.out.later hb)
        clear hb N6
        rw [SH.out]
        go_wp2_with (refine wpList_store_ro rfl (.tmp 2) (.tmp 43) rfl rfl rfl row26 N7.out.rs (by rw [vals_length]; rfl) (by rw [vals_length]; exact bytesS_len _) (vals_one _) ?_)
        intro w8 R8 g8
        go_wp2_with fail
        exact bodyPost_ret (results_ro Tryz.results108 _ rfl row26 R8 (by rw [vals_length]; exact bytesS_len _)) rfl ⟨rfl, N7.out.bel.grown g8 N7.out.bel.size (fun q e => by injection e; omega)⟩
  · have t1 : decide ((56 : Int) ≤ (r : Int)) = true := decide_eq_true (by omega)
    have hLr : 56 ≤ L.length % 64 := by rw [HN.out, HR.out]; omega
    obtain ⟨H0, hH0⟩ : ∃ H, pieces L (n / 64) = H := ⟨_, rfl⟩
    rw [hH0] at N4
    have H08 : Hid (H0.length = 8) := Lib.hid (by rw [← hH0]; exact pieces_len _ _)
    have SL : Hid (shaS L = bytesS (comp (comp H0 (endB L)) (List.replicate 56 0 ++ bits8 n))) := Lib.hid (by rw [sha_long L hLr, HN.out, hH0])
    rw [hH0]
    clear hH0 hLr
    go_wp2_with (first | (refine wpList_load_ro rfl (.tmp 3) rfl rfl row34 N4.out.1.ws (by rw [u32s_len, H08.out]) ?_) | (refine wpList_load_ro rfl (.tmp 4) rfl rfl row35 N4.out.1.la (by rw [vals_length, endB_len]) ?_))
    refine (mix_any H08.out (endB_len L) (endB_byt HL.out) _ (HD.out.later HD.out.lt N4.out.1.bel)).mono ?_
    rintro e w3 ⟨rfl, hb⟩
    have M3 : Hid (EnA w B C H0 (endB L) w3 ∧ Ro w3 w.heap.size 128 (stV W (partL L) n)) := Lib.hid ⟨N4.out.1.later hb, N4.out.2.later hb⟩
    clear hb N4
    go_wp2_with (refine wpList_store_ro rfl (.tmp 3) (.tmp 22) rfl rfl rfl row34 M3.out.1.ws (by rw [u32s_len, H08.out]) (by rw [u32s_len, comp_len]) (u32s_one _) ?_)
    intro w4 R4 g4
    have M4 : Hid (EnA w B C (comp H0 (endB L)) (endB L) w4 ∧ Ro w4 w.heap.size 128 (stV W (partL L) n)) := Lib.hid ⟨M3.out.1.words LB.out NE.out R4 g4, M3.out.2.far g4 (fun e => by injection e; have := LB.out; omega)⟩
    clear R4 g4 M3
    go_wp2_with (refine wpList_store_ro (vs := vals (List.replicate 64 0)) rfl (.tmp 4) (.tmp 23) rfl rfl rfl row35 M4.out.1.la (by rw [vals_length, endB_len]) (by rw [vals_length]; rfl) (vals_one _) ?_)
    intro w5 R5 g5
    have M5 : Hid (EnA w B C (comp H0 (endB L)) (List.replicate 64 0) w5 ∧ Ro w5 w.heap.size 128 (stV W (partL L) n)) := Lib.hid ⟨M4.out.1.last LC.out NE.out R5 g5, M4.out.2.far g5 (fun e => by injection e; have := LC.out; omega)⟩
    clear R5 g5 M4
    obtain ⟨Z, hZ⟩ : ∃ Z, List.replicate 56 0 = Z := ⟨_, rfl⟩
    obtain ⟨H, hH⟩ : ∃ H, comp H0 (endB L) = H := ⟨_, rfl⟩
    have e64 : List.replicate 64 0 = upB Z n 0 := by rw [← hZ]; rfl
    rw [hZ, hH] at SL
    rw [hH, e64] at M5
    have ZL : Hid (Z.length = 56) := Lib.hid (by rw [← hZ]; rfl)
    have ZB : Hid (AllB Z) := Lib.hid (by rw [← hZ]; exact allB_zeros 56)
    have H8 : Hid (H.length = 8) := Lib.hid (by rw [← hH]; exact comp_len _ _)
    have SH : Hid (bytesS (comp H (Z ++ bits8 n)) = shaS L) := Lib.hid SL.out.symm
    have N5 : Hid (EnA w B C H (upB Z n 0) w5 ∧ Ro w5 w.heap.size 128 (stV W (partL L) n)) := M5
    clear M5 SL hZ hH e64
    have c72 := N5.out.2.stC HW.out.len (partL_len L)
    have wr8 : IntKind.u64.wrap ((n : Int) * 8) = ((n * 8 % 18446744073709551616 : Nat) : Int) := by rw [IntKind.wrap_u64]; omega
    go_wp2_with fail
    go_loopw [27] (fun i wr => ∃ t : Nat, t ≤ 8 ∧ i = .int .i64 (t : Nat) ∧ EnA w B C H (upB Z n t) wr) (fun i _ => 8 - (intOf i).toNat)
    case atStart => exact ⟨0, by omega, rfl, N5.out.1⟩
    case round =>
      clear N5
      obtain ⟨t, ht, rfl, N⟩ := hrel
      have HN5 := Lib.hid N
      clear N
      by_cases hlt : t < 8
      · have ca := HN5.out.la.u8 (k := 56 + t) (by rw [upB_len ZL.out n t ht]; omega)
        have fa := HN5.out.la.free (56 + t)
        have FN : Hid (∀ (V : Int) (D : Nat), D = 2 ^ (56 - 8 * t) → V = ((n * 8 % 18446744073709551616 / D % 256 : Nat) : Int) → EnA w B C H (upB Z n (t + 1)) (wr.setCell ⟨C, 56 + t, none⟩ (.int .u8 V))) := Lib.hid (fun V D hD hV => by
          subst hD
          subst hV
          have h := HN5.out.set LC.out NE.out (56 + t) (n * 8 % 18446744073709551616 / 2 ^ (56 - 8 * t) % 256)
          rwa [upB_next ZL.out n t _ hlt rfl] at h)
        have z8 : t = 0 ∨ t = 1 ∨ t = 2 ∨ t = 3 ∨ t = 4 ∨ t = 5 ∨ t = 6 ∨ t = 7 := by omega
        clear HN5 hlt ht
        rcases z8 with rfl | rfl | rfl | rfl | rfl | rfl | rfl | rfl
        · go_wp2_with fail
          exact ⟨⟨1, by omega, rfl, FN.out _ 72057594037927936 rfl (by omega)⟩, by simp [intOf]⟩
        · go_wp2_with fail
          exact ⟨⟨2, by omega, rfl, FN.out _ 281474976710656 rfl (by omega)⟩, by simp [intOf]⟩
        · go_wp2_with fail
          exact ⟨⟨3, by omega, rfl, FN.out _ 1099511627776 rfl (by omega)⟩, by simp [intOf]⟩
        · go_wp2_with fail
          exact ⟨⟨4, by omega, rfl, FN.out _ 4294967296 rfl (by omega)⟩, by simp [intOf]⟩
        · go_wp2_with fail
          exact ⟨⟨5, by omega, rfl, FN.out _ 16777216 rfl (by omega)⟩, by simp [intOf]⟩
        · go_wp2_with fail
          exact ⟨⟨6, by omega, rfl, FN.out _ 65536 rfl (by omega)⟩, by simp [intOf]⟩
        · go_wp2_with fail
          exact ⟨⟨7, by omega, rfl, FN.out _ 256 rfl (by omega)⟩, by simp [intOf]⟩
        · go_wp2_with fail
          exact ⟨⟨8, by omega, rfl, FN.out _ 1 rfl (by omega)⟩, by simp [intOf]⟩
      · obtain rfl : t = 8 := by omega
        rw [upB_full] at HN5
        go_wp2_with (first | (refine wpList_load_ro rfl (.tmp 3) rfl rfl row34 HN5.out.ws (by rw [u32s_len, H8.out]) ?_) | (refine wpList_load_ro rfl (.tmp 4) rfl rfl row35 HN5.out.la (by rw [vals_length, List.length_append, ZL.out, bits8_len]) ?_))
        refine (mix_any H8.out (by rw [List.length_append, ZL.out, bits8_len]) (ZB.out.app (bits8_byt _)) _ (HD.out.later HD.out.lt HN5.out.bel)).mono ?_
        rintro e w6 ⟨rfl, hb⟩
        have N6 := Lib.hid (HN5.out.later hb)
        clear hb HN5
        go_wp2_with fail
        refine (bytesOf_any (comp_len _ _) _).mono ?_
        rintro e w7 ⟨rfl, hb⟩
        have N7 := Lib.hid (N6.out.later hb)
        clear hb N6
        rw [SH.out]
        go_wp2_with (refine wpList_store_ro rfl (.tmp 2) (.tmp 43) rfl rfl rfl row26 N7.out.rs (by rw [vals_length]; rfl) (by rw [vals_length]; exact bytesS_len _) (vals_one _) ?_)
        intro w8 R8 g8
        go_wp2_with fail
        exact bodyPost_ret (results_ro Tryz.results108 _ rfl row26 R8 (by rw [vals_length]; exact bytesS_len _)) rfl ⟨rfl, N7.out.bel.grown g8 N7.out.bel.size (fun q e => by injection e; omega)⟩
end Go.Proofs.YtimjmmiajgfblaaGreatDoor

/- The program's sums: of bytes, of the sum. No condition but a bound on the length. -/
namespace Go.Proofs.YtimjmmiajgfblaaGreatDoor
open Go.RowKit

/-- A value that is a state of the bytes L. -/
def StaV (L : List Nat) (v : Value) : Prop := ∃ W, v = .agg (stV W (partL L) L.length).toArray ∧ WOf L W
theorem StaV.add {L M : List Nat} {v : Value} (h : StaV L v) (hL : AllB L) (hMb : AllB M) (hl : L.length < 1099511627776) (hm : M.length ≤ 1099511627776) (w : World) (hLd : Laid w) {A : Option Addr} {c : Nat} (hA : Bs w A M.length M) (hc : M.length ≤ c) :
    Calls Tryz.prog 107 #[v, .slice A M.length c] w fun e w' => ∃ v', e = .returned v' ∧ StaV (L ++ M) v' ∧ Below w.heap.size w w' := by
  obtain ⟨W, rfl, hW⟩ := h
  refine (add_any hW hL hMb hl hm w hLd hA hc).mono ?_
  rintro e w' ⟨W', rfl, h1, h2⟩
  exact ⟨_, rfl, ⟨W', rfl, h1⟩, h2⟩
theorem StaV.end_ {L : List Nat} {v : Value} (h : StaV L v) (hL : AllB L) (hl : L.length < 2199023255552) (w : World) (hLd : Laid w) :
    Calls Tryz.prog 108 #[v] w fun e w' => e = .returned (.agg (vals (shaS L)).toArray) ∧ Below w.heap.size w w' := by
  obtain ⟨W, rfl, hW⟩ := h
  exact end_any hW hL hl w hLd
/-- The state of the bytes L. -/
def stateV (L : List Nat) : Value := .agg (stV (if 64 ≤ L.length then pieces L (L.length / 64) else List.replicate 8 0) (partL L) L.length).toArray
theorem staV_eq {L : List Nat} {v : Value} (h : StaV L v) : v = stateV L := by
  obtain ⟨W, rfl, hW⟩ := h
  unfold stateV
  by_cases h64 : 64 ≤ L.length
  · rw [if_pos h64, hW.val h64]
  · rw [if_neg h64, hW.zer (by omega)]
theorem staV_state (L : List Nat) : StaV L (stateV L) := by
  refine ⟨_, rfl, ?_, fun h => if_pos h, fun h => if_neg (by omega)⟩
  split
  · exact pieces_len _ _
  · rfl
theorem add_st {L M : List Nat} (hL : AllB L) (hMb : AllB M) (hl : L.length < 1099511627776) (hm : M.length ≤ 1099511627776) (w : World) (hLd : Laid w) {A : Option Addr} {c : Nat} (hA : Bs w A M.length M) (hc : M.length ≤ c) :
    Calls Tryz.prog 107 #[stateV L, .slice A M.length c] w fun e w' => e = .returned (stateV (L ++ M)) ∧ Below w.heap.size w w' := by
  refine ((staV_state L).add hL hMb hl hm w hLd hA hc).mono ?_
  rintro e w' ⟨v, rfl, hv, hb⟩
  exact ⟨by rw [staV_eq hv], hb⟩
theorem end_st {L : List Nat} (hL : AllB L) (hl : L.length < 2199023255552) (w : World) (hLd : Laid w) :
    Calls Tryz.prog 108 #[stateV L] w fun e w' => e = .returned (.agg (vals (shaS L)).toArray) ∧ Below w.heap.size w w' := (staV_state L).end_ hL hl w hLd
theorem staV_nil : StaV [] (.agg (stV (List.replicate 8 0) (List.replicate 64 0) 0).toArray) := ⟨List.replicate 8 0, rfl, wOf_nil⟩
theorem shaS_len (L : List Nat) : (shaS L).length = 32 := bytesS_len _
theorem shaS_byt (L : List Nat) : AllB (shaS L) := bytesS_byt _
theorem build38 (w : World) : (Instr.build 128 #[]).run Tryz.prog w = .ok (.agg (stV (List.replicate 8 0) (List.replicate 64 0) 0).toArray) w := by kernel_rfl

set_option maxRecDepth 100000 in
set_option maxHeartbeats 4000000 in
theorem begin_any (w : World) : Calls Tryz.prog 106 #[] w fun e w' => (∃ v, e = .returned v ∧ StaV [] v) ∧ Below w.heap.size w w' := by
  have z0 := zero38
  have z1 := build38
  have R1 := Ro.new w 128 (stV (List.replicate 8 0) (List.replicate 64 0) 0)
  have B1 := (Below.refl w.heap.size w).alloc (Nat.le_refl _) (.cells (stV (List.replicate 8 0) (List.replicate 64 0) 0).toArray 128)
  have HR := Lib.hid R1
  have HB := Lib.hid B1
  clear R1 B1
  go_enter Tryz.func106, Tryz.ntmps106
  go_wp2_with (refine wpList_store_ro (vs := stV (List.replicate 8 0) (List.replicate 64 0) 0) rfl (.tmp 0) (.tmp 1) rfl rfl rfl row38 HR.out (stV_len rfl rfl) (stV_len rfl rfl) (stV_one _ _ _) ?_)
  intro w4 R4 g4
  go_wp2_with fail
  exact bodyPost_ret (results_ro Tryz.results106 _ rfl row38 R4 (stV_len rfl rfl)) rfl ⟨⟨_, rfl, staV_nil⟩, HB.out.grown g4 HB.out.size (fun q e => by injection e; omega)⟩

set_option maxRecDepth 100000 in
set_option maxHeartbeats 4000000 in
theorem shaSum_any {M : List Nat} (hMb : AllB M) (hm : M.length ≤ 1099511627776) (w : World) (hLd : Laid w) {A : Option Addr} {c : Nat} (hA : Bs w A M.length M) (hc : M.length ≤ c) :
    Calls Tryz.prog 90 #[.slice A M.length c] w fun e w' => e = .returned (.agg (vals (shaS M)).toArray) ∧ Below w.heap.size w w' := by
  have R1 := Lib.hid (Ro.new w 25 (vals (List.replicate 32 0)))
  have B1 := Lib.hid ((Below.refl w.heap.size w).alloc (Nat.le_refl _) (.cells (vals (List.replicate 32 0)).toArray 25))
  have HD := Lib.hid hLd
  have HA := Lib.hid hA
  have HM := Lib.hid hMb
  have HL := Lib.hid hm
  clear hLd hA hMb hm
  obtain ⟨m, hmm⟩ : ∃ m, M.length = m := ⟨_, rfl⟩
  rw [hmm] at hc ⊢
  have HN := Lib.hid hmm
  clear hmm
  have CA : Hid (∀ v w1, StaV [] v → Below w.heap.size w w1 → Calls Tryz.prog 107 #[v, .slice A m c] w1 fun e w' => ∃ v', e = .returned v' ∧ StaV M v' ∧ Below w1.heap.size w1 w') := Lib.hid (fun v w1 h1 h2 => by
    have h := h1.add allB_nil HM.out (by decide) HL.out w1 (HD.out.later HD.out.lt h2) (HA.out.later h2) (c := c) (by rw [HN.out]; exact hc)
    rw [HN.out] at h
    exact h)
  go_enter Tryz.func90, Tryz.ntmps90
  go_wp2_with fail
  refine (begin_any _).mono ?_
  rintro e w2 ⟨⟨v, rfl, hv⟩, hb⟩
  have R2 := Lib.hid (R1.out.later hb)
  have B2 := Lib.hid (B1.out.trans (hb.mono B1.out.size))
  have HV := Lib.hid hv
  clear hb R1 B1 hv
  go_wp2_with fail
  refine (CA.out v _ HV.out B2.out).mono ?_
  rintro e w3 ⟨v', rfl, hv, hb⟩
  have R3 := Lib.hid (R2.out.later hb)
  have B3 := Lib.hid (B2.out.trans (hb.mono B2.out.size))
  have HV' := Lib.hid hv
  clear hb R2 B2 hv
  go_wp2_with fail
  refine (HV'.out.end_ HM.out (by have := HL.out; omega) _ (HD.out.later HD.out.lt B3.out)).mono ?_
  rintro e w4 ⟨rfl, hb⟩
  have R4 := Lib.hid (R3.out.later hb)
  have B4 := Lib.hid (B3.out.trans (hb.mono B3.out.size))
  clear hb R3 B3
  go_wp2_with (refine wpList_store_ro rfl (.tmp 2) (.tmp 6) rfl rfl rfl row26 R4.out (by rw [vals_length]; rfl) (by rw [vals_length]; exact shaS_len _) (vals_one _) ?_)
  intro w5 R5 g5
  go_wp2_with fail
  exact bodyPost_ret (results_ro Tryz.results90 _ rfl row26 R5 (by rw [vals_length]; exact shaS_len _)) rfl ⟨rfl, B4.out.grown g5 B4.out.size (fun q e => by injection e; omega)⟩

theorem begin_st (w : World) : Calls Tryz.prog 106 #[] w fun e w' => e = .returned (stateV []) ∧ Below w.heap.size w w' := by
  refine (begin_any w).mono ?_
  rintro e w' ⟨⟨v, rfl, hv⟩, hb⟩
  exact ⟨by rw [staV_eq hv], hb⟩
/-- A row of bytes as a slice. -/
theorem Ro.bs {w : World} {b : Nat} {T : TypeId} {H : List Nat} (R : Ro w b T (vals H)) (hb : AllB H) : Bs w (some ⟨b, 0, none⟩) H.length H := by
  refine ⟨rfl, hb, fun _ => ⟨_, rfl, R.lt, fun k hk => ?_⟩⟩
  have e : (⟨b, 0, none⟩ : Addr).add k = ⟨b, k, none⟩ := by unfold Addr.add; split <;> simp_all
  rw [e]
  exact R.u8 hk

set_option maxRecDepth 100000 in
set_option maxHeartbeats 4000000 in
theorem shaTwice_any {M : List Nat} (hMb : AllB M) (hm : M.length ≤ 1099511627776) (w : World) (hLd : Laid w) {A : Option Addr} {c : Nat} (hA : Bs w A M.length M) (hc : M.length ≤ c) :
    Calls Tryz.prog 67 #[.slice A M.length c] w fun e w' => e = .returned (.agg (vals (shaS (shaS M))).toArray) ∧ Below w.heap.size w w' := by
  have R1 := Lib.hid (Ro.new w 25 (vals (List.replicate 32 0)))
  have B1 := Lib.hid ((Below.refl w.heap.size w).alloc (Nat.le_refl _) (.cells (vals (List.replicate 32 0)).toArray 25))
  have HD := Lib.hid hLd
  have CA : Hid (∀ w1, Below w.heap.size w w1 → Calls Tryz.prog 90 #[.slice A M.length c] w1 fun e w' => e = .returned (.agg (vals (shaS M)).toArray) ∧ Below w1.heap.size w1 w') := Lib.hid (fun w1 h => shaSum_any hMb hm w1 (hLd.later hLd.lt h) (hA.later h) hc)
  clear hLd hA hMb hm
  obtain ⟨m, hmm⟩ : ∃ m, M.length = m := ⟨_, rfl⟩
  rw [hmm] at hc CA ⊢
  clear hmm
  go_enter Tryz.func67, Tryz.ntmps67
  go_wp2_with fail
  refine (CA.out _ B1.out).mono ?_
  rintro e w2 ⟨rfl, hb⟩
  have R2 := Lib.hid (R1.out.later hb)
  have B2 := Lib.hid (B1.out.trans (hb.mono B1.out.size))
  clear hb R1 B1 CA
  obtain ⟨H, hH⟩ : ∃ H, shaS M = H := ⟨_, rfl⟩
  have H32 : Hid (H.length = 32) := Lib.hid (by rw [← hH]; exact shaS_len M)
  have HB : Hid (AllB H) := Lib.hid (by rw [← hH]; exact shaS_byt M)
  rw [hH]
  have HH := Lib.hid hH
  clear hH
  have N2 := Ro.new w2 25 (vals (List.replicate 32 0))
  have SM := Lib.hid ((Below.refl w2.heap.size w2).alloc (Nat.le_refl _) (.cells (vals (List.replicate 32 0)).toArray 25))
  go_wp2_with (refine wpList_store_ro rfl (.tmp 3) (.tmp 5) rfl rfl rfl row26 N2 (by rw [vals_length]; rfl) (by rw [vals_length]; exact H32.out) (vals_one _) ?_)
  intro w3 R3 g3
  have N3 := Lib.hid R3
  have Q3 := Lib.hid ((R2.out.later SM.out).far g3 (fun e => by injection e; have := R2.out.lt; omega))
  have B3 := Lib.hid ((B2.out.trans (SM.out.mono B2.out.size)).grown g3 (by have := B2.out.size; simp; omega) (fun q e => by injection e; have := B2.out.size; omega))
  clear R3 g3 R2 B2 SM N2
  have CB : Hid (Calls Tryz.prog 90 #[.slice (some ⟨w2.heap.size, 0, none⟩) 32 32] w3 fun e w' => e = .returned (.agg (vals (shaS H)).toArray) ∧ Below w3.heap.size w3 w') := Lib.hid (by
    have h := shaSum_any HB.out (by rw [H32.out]; omega) w3 (HD.out.later HD.out.lt B3.out) (c := 32) (N3.out.bs HB.out) (by rw [H32.out]; omega)
    rwa [H32.out] at h)
  go_wp2_with fail
  refine CB.out.mono ?_
  rintro e w4 ⟨rfl, hb⟩
  have R4 := Lib.hid (Q3.out.later hb)
  have B4 := Lib.hid (B3.out.trans (hb.mono B3.out.size))
  clear hb Q3 B3 CB
  go_wp2_with (refine wpList_store_ro rfl (.tmp 2) (.tmp 7) rfl rfl rfl row26 R4.out (by rw [vals_length]; rfl) (by rw [vals_length]; exact shaS_len _) (vals_one _) ?_)
  intro w5 R5 g5
  go_wp2_with fail
  exact bodyPost_ret (results_ro Tryz.results67 _ rfl row26 R5 (by rw [vals_length]; exact shaS_len _)) rfl ⟨by rw [HH.out], B4.out.grown g5 B4.out.size (fun q e => by injection e; omega)⟩
end Go.Proofs.YtimjmmiajgfblaaGreatDoor
