/- MerkleTwin: a list of three or more hashes whose number is odd, and the same with its last one twice, have one root; and the longer one is doubled. No condition but that the tables lie as laid. -/
import Derived.Test.YtdenibigefchpaaDoorLeads
namespace Go.Proofs.YtdenibigefchpaaDoor
open Go.RowKit

section
variable {w0 W : World} {o : Oper} {a : Act} {Q : Exit → Act → World → Prop} {K : Act → World → Prop} {d : Option Tmp}
theorem wp_litG0 (hd : o.dst = d) (ho : o.op = .buildSlice 22 0 #[]) (h : K (a.put d (.slice (some ⟨W.heap.size, 0, none⟩) 0 0)) (W.alloc (.cells #[] 24))) : o.wp Tryd.prog a W K Q := by
  rw [← hd] at h
  obtain ⟨i0, hi, hz0, hz1, hz2⟩ := info_parts Tryd.infoG
  have key : (Instr.buildSlice 22 0 #[]).run Tryd.prog W = .ok (.slice (some ⟨W.heap.size, 0, none⟩) 0 0) (W.alloc (.cells #[] 24)) := by
    simp [Instr.buildSlice, run_underlying Tryd.underlying22, sizeOf, typeInfo, hi, newRow, Instr.fill, Array.range_zero']
  unfold Oper.wp execOp
  simp only [ho, Sem.run_bind]
  rw [show (#[].map fun (x : Nat × Operand) => match x with | (i, x) => (i, a.eval x)) = (#[] : Array (Nat × Value)) by simp, key]
  exact h
theorem wp_appGs (hd : o.dst = d) (s x : Operand) (ho : o.op = .call { callee := .builtin .append, args := #[s, x], argTypes := #[22, 22] })
    {v : Value} {m n c : Nat} {l k : List (List Nat)} {A : Option Addr} (hs : a.eval s = v) (hown : OwnG w0 v m l W) (hx : a.eval x = .slice A n c) (hn : 0 < n) (hr : Gs W A n k) (hlen : m + n ≤ 1073741824)
    (hw : ∀ A' c' w', OwnG w0 (.slice A' (m + n) c') (m + n) (l ++ k) w' → W.grownBy w' v.ownBlock → (Value.ownBlock (.slice A' (m + n) c') = v.ownBlock ∨ Value.ownBlock (.slice A' (m + n) c') = some W.heap.size) → K (a.put d (.slice A' (m + n) c')) w') : o.wp Tryd.prog a W K Q := by
  obtain ⟨b, q, rfl, _, hrg⟩ := hr.cel hn
  obtain ⟨A', c', w', r1, r2, r3, r4, r5⟩ := run_appG (w0 := w0) (w := W) (m := k) (k := n) (c := c) (b := b) (q := q) o.type hown hr.len hr.ok hrg hlen
  have e := hw A' c' w' r2 r3 r5
  rw [← hd] at e
  unfold Oper.wp
  simp [execOp, ho, resolve, invoke, builtin, hs, hx, r1, Result.andThen]
  exact e
end
theorem OwnG.made {w0 w : World} (b : Below w0.heap.size w0 w) : OwnG w0 (.slice (some ⟨w.heap.size, 0, none⟩) 0 0) 0 [] (w.alloc (.cells #[] 24)) := by
  have h : OwnG w (.slice (some ⟨w.heap.size, 0, none⟩) 0 0) 0 [] (w.alloc (.cells #[] 24)) := ⟨World.ownsRow_made w #[] 0 (Nat.le_refl _) (by unfold maxLen; omega) rfl, okG_nil, (Below.refl _ _).alloc (Nat.le_refl _) _⟩
  exact h.weaken b

set_option maxRecDepth 100000 in
set_option maxHeartbeats 8000000 in
theorem twin_law {A : Option Addr} {n c : Nat} {l : List (List Nat)} {w : World} (_ : n ≤ c) (_ : c ≤ 9223372036854775807) (hl : Gs w A n l) (hLd : Laid w) :
    Calls Tryd.prog 7 #[.slice A n c] w fun e w' => e = .returned (.bool true) ∧ Below w.heap.size w w' := by
  have HD := Lib.hid hLd
  have HL := Lib.hid hl
  have HN := Lib.hid hl.len
  have B0 := Lib.hid (Below.refl w.heap.size w)
  have lz := Lib.hid (show (vals z32).length = 32 by rw [vals_length]; exact z32_ok.1)
  clear hLd hl
  have fin : ∀ w1, Below w.heap.size w w1 → Calls Tryd.prog 9 #[] w1 fun e w' => e = .returned (.bool true) ∧ Below w.heap.size w w' := fun w1 b => (works_any w1 (HD.out.later HD.out.lt b)).mono fun e w' ⟨h1, h2⟩ => ⟨h1, b.trans (h2.mono b.size)⟩
  have FIN := Lib.hid fin
  clear fin
  go_enter Tryd.func7, Tryd.ntmps7
  by_cases h3 : n < 3
  · have t0 : decide ((n : Int) < 3) = true := decide_eq_true (by omega)
    go_wp2_with fail
    refine (FIN.out _ B0.out).mono ?_
    rintro e w1 ⟨rfl, hb⟩
    have HB := Lib.hid hb
    clear hb
    go_wp2_with fail
    go_ret
    exact ⟨rfl, HB.out⟩
  have t0 : decide ((n : Int) < 3) = false := decide_eq_false (by omega)
  by_cases h4 : 199 < n
  · have t1 : decide ((199 : Int) < (n : Int)) = true := decide_eq_true (by omega)
    go_wp2_with fail
    refine (FIN.out _ B0.out).mono ?_
    rintro e w1 ⟨rfl, hb⟩
    have HB := Lib.hid hb
    clear hb
    go_wp2_with fail
    go_ret
    exact ⟨rfl, HB.out⟩
  have t1 : decide ((199 : Int) < (n : Int)) = false := decide_eq_false (by omega)
  by_cases h5 : n % 2 = 0
  · have t2 : ((n : Int) % 2 == 0) = true := by rw [beq_iff_eq]; omega
    go_wp2_with fail
    refine (FIN.out _ B0.out).mono ?_
    rintro e w1 ⟨rfl, hb⟩
    have HB := Lib.hid hb
    clear hb
    go_wp2_with fail
    go_ret
    exact ⟨rfl, HB.out⟩
  have t2 : ((n : Int) % 2 == 0) = false := by rw [beq_eq_false_iff_ne]; omega
  obtain ⟨p, rfl⟩ : ∃ p, n = p + 1 := ⟨n - 1, by omega⟩
  have y1 : IntKind.i64.wrap (((p + 1 : Nat) : Int) - 1) = (p : Int) := by rw [IntWalk.i64_in _ (by omega)]; omega
  obtain ⟨lb, lo, rfl, hlb, _⟩ := HL.out.cel (by omega)
  have ad := add_at lb lo
  have ok := nt_ok HL.out.ok (k := p) (by rw [HN.out]; omega)
  have RJ := (HL.out.at_ (k := p) (by omega)).2
  have ho : l.length % 2 = 1 := by rw [HN.out]; omega
  have FT := fold_twin joinS ho
  have RT := root_twin joinS (z := z32) ho (by rw [HN.out]; omega)
  have TT := twice_twin joinS ho
  rw [HN.out, show p + 1 - 1 = p from rfl] at FT RT TT
  have okR := (root_ok _ l (Nat.le_refl _) HL.out.ok).1
  obtain ⟨x, hx⟩ : ∃ x, nt l p = x := ⟨_, rfl⟩
  rw [hx] at RJ FT RT TT ok
  have OK := Lib.hid ok
  have HRJ := Lib.hid RJ
  have LB := Lib.hid hlb
  have lx := Lib.hid (show (vals x).length = 32 by rw [vals_length]; exact ok.1)
  have ML : Hid ((l ++ [x]).length = p + 1 + 1) := Lib.hid (by rw [List.length_append, HN.out]; rfl)
  obtain ⟨R, hR⟩ : ∃ R, root joinS z32 l = R := ⟨_, rfl⟩
  rw [hR] at RT okR
  have HFT := Lib.hid FT
  have HRT := Lib.hid RT
  have HTT := Lib.hid TT
  have HR := Lib.hid hR
  have EQR := eq_same okR
  have t3 : (((p : Int) + 1) % 2 == 0) = false := by rw [beq_eq_false_iff_ne]; omega
  clear ok RJ FT RT TT ho hx hR hlb okR h5
  go_wp2_with fail
  refine wp_region_seg (W := w) (by kernel_rfl) fun wa ga => ?_
  refine wpK_seg 1 1 (f := 11) (by kernel_rfl) (fun _ _ _ _ _ h => h) (by kernel_rfl) (by kernel_rfl) (by kernel_rfl) ga ?_
  apply Exists.intro
  refine ⟨?_, ?_⟩
  · intro wg hg
    simp only [List.drop_succ_cons, List.drop_zero, List.take_succ_cons, List.take_zero]
    repeat (go_big_quiet_step (fail))
    refine wpQuiet_nil ?_
    exact rfl
  refine wpK_seg 3 6 (f := 5) (by kernel_rfl) (fun _ _ _ _ _ h => h) (by kernel_rfl) (by kernel_rfl) (by kernel_rfl) ga ?_
  apply Exists.intro
  refine ⟨?_, ?_⟩
  · intro wg hg
    simp only [List.drop_succ_cons, List.drop_zero, List.take_succ_cons, List.take_zero]
    repeat (go_big_quiet_step (fail))
    go_big_quiet_want
    refine quiet_load_part (.tmp 30) rfl rfl row26 (fun w9 h9 => by obtain ⟨u, rfl⟩ := h9; exact range_later HRJ.out LB.out (hg.trans u.below)) lx.out ?_
    simp only [Act.put, List.setIfInBounds_toArray, List.set_cons_succ, List.set_cons_zero]
    go_big_quiet_on
    refine wpQuiet_nil ?_
    exact rfl
  have GA := Lib.hid (show Below w.heap.size w wa from ga)
  clear ga
  refine wpK_two (f := 4) (i := 0) (k := 9) (by kernel_rfl) rfl rfl rfl rfl ?_ ?_
  · intro wx1 gx2 K hK
    have GXwx1 := Lib.hid (GA.out.trans (gx2.mono GA.out.size))
    refine wp_litG0 (d := some 23) rfl rfl ?_
    simp only [Act.put, List.setIfInBounds_toArray, List.set_cons_succ, List.set_cons_zero]
    have OWwy4 := Lib.hid (OwnG.made (w0 := w) GXwx1.out)
    have GWwy4 := Lib.hid (GXwx1.out.alloc GXwx1.out.size (.cells #[] 24))
    refine hK _ _ GWwy4.out ?_
    clear hK K
    refine wpK_two (f := 3) (i := 2) (k := 9) (by kernel_rfl) rfl rfl rfl rfl ?_ ?_
    · intro wx5 gx6 K hK
      have GXwx5 := Lib.hid (GWwy4.out.trans (gx6.mono GWwy4.out.size))
      have OWwx5 := Lib.hid (OWwy4.out.later gx6)
      refine wp_appGs (d := some 25) rfl (.tmp 23) (.tmp 24) rfl rfl OWwx5.out rfl (by omega) (HL.out.later GXwx5.out) (by omega) ?_
      intro A2 c2 wz7 O2 g2 n2
      simp only [Act.put, List.setIfInBounds_toArray, List.set_cons_succ, List.set_cons_zero]
      have GWwz7 := Lib.hid (GXwx5.out.grown g2 GXwx5.out.size (fun q e => (OWwx5.out.new q e).1))
      rw [Nat.zero_add, List.nil_append] at O2
      have OWwz7 := Lib.hid O2
      clear O2 g2 n2
      simp only [Nat.zero_add]
      refine hK _ _ GWwz7.out ?_
      clear hK K
      refine wpK_one (f := 2) (i := 9) (by kernel_rfl) rfl rfl ?_
      intro wx8 gx9 K hK
      have GXwx8 := Lib.hid (GWwz7.out.trans (gx9.mono GWwz7.out.size))
      have OWwx8 := Lib.hid (OWwz7.out.later gx9)
      refine wp_litG (d := some 32) rfl (.tmp 31) rfl rfl lx.out ?_
      simp only [Act.put, List.setIfInBounds_toArray, List.set_cons_succ, List.set_cons_zero]
      have LIwl10 := Lib.hid (Ro.new wx8 24 (vals x))
      have GWwl10 := Lib.hid (GXwx8.out.alloc GXwx8.out.size (.cells (vals x).toArray 24))
      have OWwl10 := Lib.hid (OWwx8.out.later ((Below.refl wx8.heap.size wx8).alloc (Nat.le_refl _) (.cells (vals x).toArray 24)))
      refine hK _ _ GWwl10.out ?_
      clear hK K
      refine wpK_one (f := 1) (i := 10) (by kernel_rfl) rfl rfl ?_
      intro wx11 gx12 K hK
      have GXwx11 := Lib.hid (GWwl10.out.trans (gx12.mono GWwl10.out.size))
      have OWwx11 := Lib.hid (OWwl10.out.later gx12)
      have LIwx11 := Lib.hid (LIwl10.out.later gx12)
      refine wp_appG6 (ops := #[]) (d := some 33) rfl (.tmp 25) (.tmp 32) rfl rfl OWwx11.out rfl OK.out LIwx11.out (by omega) ?_
      intro A3 c3 w6 O3 g3 n3
      simp only [Act.put, List.setIfInBounds_toArray, List.set_cons_succ, List.set_cons_zero]
      have GW := Lib.hid (GXwx11.out.grown g3 GXwx11.out.size (fun q e => (OWwx11.out.new q e).1))
      have OW := Lib.hid O3
      clear O3 g3 n3
      refine hK _ _ GW.out ?_
      clear hK K
      refine wpK_one (f := 0) (i := 11) (by kernel_rfl) rfl rfl ?_
      intro wx14 gx15 K hK
      have GXwx14 := Lib.hid (GW.out.trans (gx15.mono GW.out.size))
      have OWwx14 := Lib.hid (OW.out.later gx15)
      go_simp
      refine hK _ _ GXwx14.out ?_
      clear hK K
      try simp only [Act.put, List.setIfInBounds_toArray, List.set_cons_succ, List.set_cons_zero]
      refine wpK_end (by kernel_rfl) fun w7 g7 => ?_
      have B7 := Lib.hid (GXwx14.out.trans (g7.mono GXwx14.out.size))
      have O7 := Lib.hid (OWwx14.out.later g7)
      clear g7
      have G7 := Lib.hid O7.out.reads
      have CB := Lib.hid (branch_any (c := c3) (k := p + 1) w7 (HD.out.later HD.out.lt B7.out) (by omega) (by omega) G7.out)
      have PW := Lib.hid (branch_pow joinS _ (l ++ [x]) (p + 1) (Nat.le_refl _))
      have BL := Lib.hid (branch_len joinS _ 8 (l ++ [x]) (p + 1) (Nat.le_refl _) (by rw [ML.out]; omega))
      have FX := HFT.out
      obtain ⟨bs, hbs⟩ : ∃ bs, branch joinS (l ++ [x]) (p + 1) = bs := ⟨_, rfl⟩
      rw [hbs] at CB PW BL FX
      have HFX := Lib.hid FX
      clear hbs FX O7
      go_wp2_with fail
      refine CB.out.mono ?_
      rintro e w8 ⟨BA, m, d, rfl, O⟩
      have hm : m ≤ 8 := by have := O.len; have := BL.out; omega
      have B8 := Lib.hid (B7.out.trans (O.bel.mono B7.out.size))
      have G8 := Lib.hid (G7.out.later O.bel)
      have K8 := Lib.hid O.reads
      have q1 : p + 1 < 2 ^ m := by
        have h1 := PW.out
        rw [O.len, ML.out] at h1
        omega
      have q2 : (((p + 1 : Nat) : Int) / 2 ^ m) = 0 := by
        refine Int.ediv_eq_zero_of_lt (by omega) ?_
        have e : ((2 : Int) ^ m) = ((2 ^ m : Nat) : Int) := by rw [Int.natCast_pow]; rfl
        rw [e]
        omega
      have CF := fold_any (c := d) (k := p + 1) (x := x) w8 (HD.out.later HD.out.lt B8.out) OK.out (by omega) (by omega) q2 K8.out
      rw [HFX.out] at CF
      have HCF := Lib.hid CF
      have R8 := Lib.hid (range_later HRJ.out LB.out B8.out)
      clear O CB PW BL B7 G7 q1 q2 CF
      go_wp2_with (refine wpList_load_part rfl (.tmp 48) rfl rfl row26 R8.out lx.out ?_)
      refine HCF.out.mono ?_
      rintro e w9 ⟨rfl, hb⟩
      have B9 := Lib.hid (B8.out.trans (hb.mono B8.out.size))
      have G9 := Lib.hid (G8.out.later hb)
      clear hb HCF B8 G8 K8 R8
      dsimp only [foldV, foldE]
      go_wp2_with (refine wpList_store_ro rfl (.tmp 6) (.tmp 54) rfl rfl rfl row26 (Ro.new w9 24 (vals z32)) lz.out lz.out (vals_one _) ?_)
      intro wb Rb gb
      have Bb := Lib.hid (B9.out.trans ((box_store gb).mono B9.out.size))
      have Gb := Lib.hid (G9.out.later (box_store gb))
      clear Rb gb B9 G9
      have C1 : Hid (Calls Tryd.prog 14 #[.slice (some ⟨lb, lo, none⟩) (p + 1) c] wb fun e w' => e = .returned (.agg (vals R).toArray) ∧ Below wb.heap.size wb w') := Lib.hid (by rw [← HR.out]; exact root_any wb (HD.out.later HD.out.lt Bb.out) (by omega) (HL.out.later Bb.out))
      go_wp2_with fail
      refine C1.out.mono ?_
      rintro e wc ⟨rfl, hb⟩
      have Bc := Lib.hid (Bb.out.trans (hb.mono Bb.out.size))
      have Gc := Lib.hid (Gb.out.later hb)
      clear hb C1 Bb Gb
      have C2 := root_any (c := c3) wc (HD.out.later HD.out.lt Bc.out) (by omega) Gc.out
      rw [HRT.out] at C2
      have HC2 := Lib.hid C2
      clear C2
      go_wp2_with fail
      refine HC2.out.mono ?_
      rintro e wd ⟨rfl, hb⟩
      have Bd := Lib.hid (Bc.out.trans (hb.mono Bc.out.size))
      have Gd := Lib.hid (Gc.out.later hb)
      clear hb HC2 Bc Gc
      have C3 := doubled_any (c := c3) wd (HD.out.later HD.out.lt Bd.out) (by omega) Gd.out
      rw [HTT.out] at C3
      have HC3 := Lib.hid C3
      clear C3
      go_wp2_with fail
      refine HC3.out.mono ?_
      rintro e we ⟨rfl, hb⟩
      have Be := Lib.hid (Bd.out.trans (hb.mono Bd.out.size))
      clear hb HC3 Bd Gd
      go_wp2_with fail
      refine (FIN.out _ Be.out).mono ?_
      rintro e wf ⟨rfl, hb⟩
      have HBf := Lib.hid hb
      clear hb
      go_wp2_with fail
      go_ret
      exact ⟨rfl, HBf.out⟩
    · intro wx16 gx17 K hK
      have GXwx16 := Lib.hid (GWwy4.out.trans (gx17.mono GWwy4.out.size))
      have OWwx16 := Lib.hid (OWwy4.out.later gx17)
      refine wp_litG (d := some 32) rfl (.tmp 31) rfl rfl lx.out ?_
      simp only [Act.put, List.setIfInBounds_toArray, List.set_cons_succ, List.set_cons_zero]
      have LIwl18 := Lib.hid (Ro.new wx16 24 (vals x))
      have GWwl18 := Lib.hid (GXwx16.out.alloc GXwx16.out.size (.cells (vals x).toArray 24))
      have OWwl18 := Lib.hid (OWwx16.out.later ((Below.refl wx16.heap.size wx16).alloc (Nat.le_refl _) (.cells (vals x).toArray 24)))
      have NEwl18 : Hid (wx16.heap.size ≠ wx1.heap.size) := Lib.hid (by have := (OWwx16.out.new _ rfl).2; dsimp only at this; omega)
      refine hK _ _ GWwl18.out ?_
      clear hK K
      refine wpK_one (f := 2) (i := 2) (by kernel_rfl) rfl rfl ?_
      intro wx19 gx20 K hK
      have GXwx19 := Lib.hid (GWwl18.out.trans (gx20.mono GWwl18.out.size))
      have OWwx19 := Lib.hid (OWwl18.out.later gx20)
      have LIwx19 := Lib.hid (LIwl18.out.later gx20)
      refine wp_appGs (d := some 25) rfl (.tmp 23) (.tmp 24) rfl rfl OWwx19.out rfl (by omega) (HL.out.later GXwx19.out) (by omega) ?_
      intro A2 c2 wz21 O2 g2 n2
      simp only [Act.put, List.setIfInBounds_toArray, List.set_cons_succ, List.set_cons_zero]
      have GWwz21 := Lib.hid (GXwx19.out.grown g2 GXwx19.out.size (fun q e => (OWwx19.out.new q e).1))
      have LIwz21 := Lib.hid (LIwx19.out.far g2 (fun e => by injection e with e; exact NEwl18.out e))
      rw [Nat.zero_add, List.nil_append] at O2
      have OWwz21 := Lib.hid O2
      clear O2 g2 n2
      simp only [Nat.zero_add]
      refine hK _ _ GWwz21.out ?_
      clear hK K
      refine wpK_one (f := 1) (i := 10) (by kernel_rfl) rfl rfl ?_
      intro wx22 gx23 K hK
      have GXwx22 := Lib.hid (GWwz21.out.trans (gx23.mono GWwz21.out.size))
      have OWwx22 := Lib.hid (OWwz21.out.later gx23)
      have LIwx22 := Lib.hid (LIwz21.out.later gx23)
      refine wp_appG6 (ops := #[]) (d := some 33) rfl (.tmp 25) (.tmp 32) rfl rfl OWwx22.out rfl OK.out LIwx22.out (by omega) ?_
      intro A3 c3 w6 O3 g3 n3
      simp only [Act.put, List.setIfInBounds_toArray, List.set_cons_succ, List.set_cons_zero]
      have GW := Lib.hid (GXwx22.out.grown g3 GXwx22.out.size (fun q e => (OWwx22.out.new q e).1))
      have OW := Lib.hid O3
      clear O3 g3 n3
      refine hK _ _ GW.out ?_
      clear hK K
      refine wpK_one (f := 0) (i := 11) (by kernel_rfl) rfl rfl ?_
      intro wx25 gx26 K hK
      have GXwx25 := Lib.hid (GW.out.trans (gx26.mono GW.out.size))
      have OWwx25 := Lib.hid (OW.out.later gx26)
      go_simp
      refine hK _ _ GXwx25.out ?_
      clear hK K
      try simp only [Act.put, List.setIfInBounds_toArray, List.set_cons_succ, List.set_cons_zero]
      refine wpK_end (by kernel_rfl) fun w7 g7 => ?_
      have B7 := Lib.hid (GXwx25.out.trans (g7.mono GXwx25.out.size))
      have O7 := Lib.hid (OWwx25.out.later g7)
      clear g7
      have G7 := Lib.hid O7.out.reads
      have CB := Lib.hid (branch_any (c := c3) (k := p + 1) w7 (HD.out.later HD.out.lt B7.out) (by omega) (by omega) G7.out)
      have PW := Lib.hid (branch_pow joinS _ (l ++ [x]) (p + 1) (Nat.le_refl _))
      have BL := Lib.hid (branch_len joinS _ 8 (l ++ [x]) (p + 1) (Nat.le_refl _) (by rw [ML.out]; omega))
      have FX := HFT.out
      obtain ⟨bs, hbs⟩ : ∃ bs, branch joinS (l ++ [x]) (p + 1) = bs := ⟨_, rfl⟩
      rw [hbs] at CB PW BL FX
      have HFX := Lib.hid FX
      clear hbs FX O7
      go_wp2_with fail
      refine CB.out.mono ?_
      rintro e w8 ⟨BA, m, d, rfl, O⟩
      have hm : m ≤ 8 := by have := O.len; have := BL.out; omega
      have B8 := Lib.hid (B7.out.trans (O.bel.mono B7.out.size))
      have G8 := Lib.hid (G7.out.later O.bel)
      have K8 := Lib.hid O.reads
      have q1 : p + 1 < 2 ^ m := by
        have h1 := PW.out
        rw [O.len, ML.out] at h1
        omega
      have q2 : (((p + 1 : Nat) : Int) / 2 ^ m) = 0 := by
        refine Int.ediv_eq_zero_of_lt (by omega) ?_
        have e : ((2 : Int) ^ m) = ((2 ^ m : Nat) : Int) := by rw [Int.natCast_pow]; rfl
        rw [e]
        omega
      have CF := fold_any (c := d) (k := p + 1) (x := x) w8 (HD.out.later HD.out.lt B8.out) OK.out (by omega) (by omega) q2 K8.out
      rw [HFX.out] at CF
      have HCF := Lib.hid CF
      have R8 := Lib.hid (range_later HRJ.out LB.out B8.out)
      clear O CB PW BL B7 G7 q1 q2 CF
      go_wp2_with (refine wpList_load_part rfl (.tmp 48) rfl rfl row26 R8.out lx.out ?_)
      refine HCF.out.mono ?_
      rintro e w9 ⟨rfl, hb⟩
      have B9 := Lib.hid (B8.out.trans (hb.mono B8.out.size))
      have G9 := Lib.hid (G8.out.later hb)
      clear hb HCF B8 G8 K8 R8
      dsimp only [foldV, foldE]
      go_wp2_with (refine wpList_store_ro rfl (.tmp 6) (.tmp 54) rfl rfl rfl row26 (Ro.new w9 24 (vals z32)) lz.out lz.out (vals_one _) ?_)
      intro wb Rb gb
      have Bb := Lib.hid (B9.out.trans ((box_store gb).mono B9.out.size))
      have Gb := Lib.hid (G9.out.later (box_store gb))
      clear Rb gb B9 G9
      have C1 : Hid (Calls Tryd.prog 14 #[.slice (some ⟨lb, lo, none⟩) (p + 1) c] wb fun e w' => e = .returned (.agg (vals R).toArray) ∧ Below wb.heap.size wb w') := Lib.hid (by rw [← HR.out]; exact root_any wb (HD.out.later HD.out.lt Bb.out) (by omega) (HL.out.later Bb.out))
      go_wp2_with fail
      refine C1.out.mono ?_
      rintro e wc ⟨rfl, hb⟩
      have Bc := Lib.hid (Bb.out.trans (hb.mono Bb.out.size))
      have Gc := Lib.hid (Gb.out.later hb)
      clear hb C1 Bb Gb
      have C2 := root_any (c := c3) wc (HD.out.later HD.out.lt Bc.out) (by omega) Gc.out
      rw [HRT.out] at C2
      have HC2 := Lib.hid C2
      clear C2
      go_wp2_with fail
      refine HC2.out.mono ?_
      rintro e wd ⟨rfl, hb⟩
      have Bd := Lib.hid (Bc.out.trans (hb.mono Bc.out.size))
      have Gd := Lib.hid (Gc.out.later hb)
      clear hb HC2 Bc Gc
      have C3 := doubled_any (c := c3) wd (HD.out.later HD.out.lt Bd.out) (by omega) Gd.out
      rw [HTT.out] at C3
      have HC3 := Lib.hid C3
      clear C3
      go_wp2_with fail
      refine HC3.out.mono ?_
      rintro e we ⟨rfl, hb⟩
      have Be := Lib.hid (Bd.out.trans (hb.mono Bd.out.size))
      clear hb HC3 Bd Gd
      go_wp2_with fail
      refine (FIN.out _ Be.out).mono ?_
      rintro e wf ⟨rfl, hb⟩
      have HBf := Lib.hid hb
      clear hb
      go_wp2_with fail
      go_ret
      exact ⟨rfl, HBf.out⟩
  · intro wx27 gx28 K hK
    have GXwx27 := Lib.hid (GA.out.trans (gx28.mono GA.out.size))
    refine wp_litG (d := some 32) rfl (.tmp 31) rfl rfl lx.out ?_
    simp only [Act.put, List.setIfInBounds_toArray, List.set_cons_succ, List.set_cons_zero]
    have LIwl29 := Lib.hid (Ro.new wx27 24 (vals x))
    have GWwl29 := Lib.hid (GXwx27.out.alloc GXwx27.out.size (.cells (vals x).toArray 24))
    refine hK _ _ GWwl29.out ?_
    clear hK K
    refine wpK_one (f := 3) (i := 0) (by kernel_rfl) rfl rfl ?_
    intro wx30 gx31 K hK
    have GXwx30 := Lib.hid (GWwl29.out.trans (gx31.mono GWwl29.out.size))
    have LIwx30 := Lib.hid (LIwl29.out.later gx31)
    refine wp_litG0 (d := some 23) rfl rfl ?_
    simp only [Act.put, List.setIfInBounds_toArray, List.set_cons_succ, List.set_cons_zero]
    have OWwy33 := Lib.hid (OwnG.made (w0 := w) GXwx30.out)
    have GWwy33 := Lib.hid (GXwx30.out.alloc GXwx30.out.size (.cells #[] 24))
    have LIwy33 := Lib.hid (LIwx30.out.alloc (.cells #[] 24))
    have NEwy33 : Hid (wx27.heap.size ≠ wx30.heap.size) := Lib.hid (by have := LIwx30.out.lt; omega)
    refine hK _ _ GWwy33.out ?_
    clear hK K
    refine wpK_one (f := 2) (i := 2) (by kernel_rfl) rfl rfl ?_
    intro wx34 gx35 K hK
    have GXwx34 := Lib.hid (GWwy33.out.trans (gx35.mono GWwy33.out.size))
    have OWwx34 := Lib.hid (OWwy33.out.later gx35)
    have LIwx34 := Lib.hid (LIwy33.out.later gx35)
    refine wp_appGs (d := some 25) rfl (.tmp 23) (.tmp 24) rfl rfl OWwx34.out rfl (by omega) (HL.out.later GXwx34.out) (by omega) ?_
    intro A2 c2 wz36 O2 g2 n2
    simp only [Act.put, List.setIfInBounds_toArray, List.set_cons_succ, List.set_cons_zero]
    have GWwz36 := Lib.hid (GXwx34.out.grown g2 GXwx34.out.size (fun q e => (OWwx34.out.new q e).1))
    have LIwz36 := Lib.hid (LIwx34.out.far g2 (fun e => by injection e with e; exact NEwy33.out e))
    rw [Nat.zero_add, List.nil_append] at O2
    have OWwz36 := Lib.hid O2
    clear O2 g2 n2
    simp only [Nat.zero_add]
    refine hK _ _ GWwz36.out ?_
    clear hK K
    refine wpK_one (f := 1) (i := 10) (by kernel_rfl) rfl rfl ?_
    intro wx37 gx38 K hK
    have GXwx37 := Lib.hid (GWwz36.out.trans (gx38.mono GWwz36.out.size))
    have OWwx37 := Lib.hid (OWwz36.out.later gx38)
    have LIwx37 := Lib.hid (LIwz36.out.later gx38)
    refine wp_appG6 (ops := #[]) (d := some 33) rfl (.tmp 25) (.tmp 32) rfl rfl OWwx37.out rfl OK.out LIwx37.out (by omega) ?_
    intro A3 c3 w6 O3 g3 n3
    simp only [Act.put, List.setIfInBounds_toArray, List.set_cons_succ, List.set_cons_zero]
    have GW := Lib.hid (GXwx37.out.grown g3 GXwx37.out.size (fun q e => (OWwx37.out.new q e).1))
    have OW := Lib.hid O3
    clear O3 g3 n3
    refine hK _ _ GW.out ?_
    clear hK K
    refine wpK_one (f := 0) (i := 11) (by kernel_rfl) rfl rfl ?_
    intro wx40 gx41 K hK
    have GXwx40 := Lib.hid (GW.out.trans (gx41.mono GW.out.size))
    have OWwx40 := Lib.hid (OW.out.later gx41)
    go_simp
    refine hK _ _ GXwx40.out ?_
    clear hK K
    try simp only [Act.put, List.setIfInBounds_toArray, List.set_cons_succ, List.set_cons_zero]
    refine wpK_end (by kernel_rfl) fun w7 g7 => ?_
    have B7 := Lib.hid (GXwx40.out.trans (g7.mono GXwx40.out.size))
    have O7 := Lib.hid (OWwx40.out.later g7)
    clear g7
    have G7 := Lib.hid O7.out.reads
    have CB := Lib.hid (branch_any (c := c3) (k := p + 1) w7 (HD.out.later HD.out.lt B7.out) (by omega) (by omega) G7.out)
    have PW := Lib.hid (branch_pow joinS _ (l ++ [x]) (p + 1) (Nat.le_refl _))
    have BL := Lib.hid (branch_len joinS _ 8 (l ++ [x]) (p + 1) (Nat.le_refl _) (by rw [ML.out]; omega))
    have FX := HFT.out
    obtain ⟨bs, hbs⟩ : ∃ bs, branch joinS (l ++ [x]) (p + 1) = bs := ⟨_, rfl⟩
    rw [hbs] at CB PW BL FX
    have HFX := Lib.hid FX
    clear hbs FX O7
    go_wp2_with fail
    refine CB.out.mono ?_
    rintro e w8 ⟨BA, m, d, rfl, O⟩
    have hm : m ≤ 8 := by have := O.len; have := BL.out; omega
    have B8 := Lib.hid (B7.out.trans (O.bel.mono B7.out.size))
    have G8 := Lib.hid (G7.out.later O.bel)
    have K8 := Lib.hid O.reads
    have q1 : p + 1 < 2 ^ m := by
      have h1 := PW.out
      rw [O.len, ML.out] at h1
      omega
    have q2 : (((p + 1 : Nat) : Int) / 2 ^ m) = 0 := by
      refine Int.ediv_eq_zero_of_lt (by omega) ?_
      have e : ((2 : Int) ^ m) = ((2 ^ m : Nat) : Int) := by rw [Int.natCast_pow]; rfl
      rw [e]
      omega
    have CF := fold_any (c := d) (k := p + 1) (x := x) w8 (HD.out.later HD.out.lt B8.out) OK.out (by omega) (by omega) q2 K8.out
    rw [HFX.out] at CF
    have HCF := Lib.hid CF
    have R8 := Lib.hid (range_later HRJ.out LB.out B8.out)
    clear O CB PW BL B7 G7 q1 q2 CF
    go_wp2_with (refine wpList_load_part rfl (.tmp 48) rfl rfl row26 R8.out lx.out ?_)
    refine HCF.out.mono ?_
    rintro e w9 ⟨rfl, hb⟩
    have B9 := Lib.hid (B8.out.trans (hb.mono B8.out.size))
    have G9 := Lib.hid (G8.out.later hb)
    clear hb HCF B8 G8 K8 R8
    dsimp only [foldV, foldE]
    go_wp2_with (refine wpList_store_ro rfl (.tmp 6) (.tmp 54) rfl rfl rfl row26 (Ro.new w9 24 (vals z32)) lz.out lz.out (vals_one _) ?_)
    intro wb Rb gb
    have Bb := Lib.hid (B9.out.trans ((box_store gb).mono B9.out.size))
    have Gb := Lib.hid (G9.out.later (box_store gb))
    clear Rb gb B9 G9
    have C1 : Hid (Calls Tryd.prog 14 #[.slice (some ⟨lb, lo, none⟩) (p + 1) c] wb fun e w' => e = .returned (.agg (vals R).toArray) ∧ Below wb.heap.size wb w') := Lib.hid (by rw [← HR.out]; exact root_any wb (HD.out.later HD.out.lt Bb.out) (by omega) (HL.out.later Bb.out))
    go_wp2_with fail
    refine C1.out.mono ?_
    rintro e wc ⟨rfl, hb⟩
    have Bc := Lib.hid (Bb.out.trans (hb.mono Bb.out.size))
    have Gc := Lib.hid (Gb.out.later hb)
    clear hb C1 Bb Gb
    have C2 := root_any (c := c3) wc (HD.out.later HD.out.lt Bc.out) (by omega) Gc.out
    rw [HRT.out] at C2
    have HC2 := Lib.hid C2
    clear C2
    go_wp2_with fail
    refine HC2.out.mono ?_
    rintro e wd ⟨rfl, hb⟩
    have Bd := Lib.hid (Bc.out.trans (hb.mono Bc.out.size))
    have Gd := Lib.hid (Gc.out.later hb)
    clear hb HC2 Bc Gc
    have C3 := doubled_any (c := c3) wd (HD.out.later HD.out.lt Bd.out) (by omega) Gd.out
    rw [HTT.out] at C3
    have HC3 := Lib.hid C3
    clear C3
    go_wp2_with fail
    refine HC3.out.mono ?_
    rintro e we ⟨rfl, hb⟩
    have Be := Lib.hid (Bd.out.trans (hb.mono Bd.out.size))
    clear hb HC3 Bd Gd
    go_wp2_with fail
    refine (FIN.out _ Be.out).mono ?_
    rintro e wf ⟨rfl, hb⟩
    have HBf := Lib.hid hb
    clear hb
    go_wp2_with fail
    go_ret
    exact ⟨rfl, HBf.out⟩
end Go.Proofs.YtdenibigefchpaaDoor
