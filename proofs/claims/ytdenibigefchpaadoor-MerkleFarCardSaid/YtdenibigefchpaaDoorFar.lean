/- MerkleFar: how long a branch may be, and which numbers go with it. No condition but that the tables lie as laid. -/
import Derived.Test.YtdenibigefchpaaDoorBrAll
namespace Go.Proofs.YtdenibigefchpaaDoor
open Go.RowKit

theorem gsV_rep : ∀ n : Nat, gsV (List.replicate n z32) = List.replicate (n * 32) (.int .u8 0)
  | 0 => rfl
  | n + 1 => by
    rw [List.replicate_succ, gsV, gsV_rep n, show (n + 1) * 32 = 32 + n * 32 by omega, ← List.replicate_append_replicate]
    rfl
theorem made_gs (n : Nat) : madeCells (Value.agg (vals z32).toArray).cells (n * 32) = (gsV (List.replicate n z32)).toArray := by
  apply Array.toList_inj.1
  rw [gsV_rep]
  show _ = List.replicate (n * 32) (Value.int .u8 0)
  refine List.eq_replicate_iff.2 ⟨by simp [madeCells], fun b hb => ?_⟩
  have e : vals z32 = List.replicate 32 (Value.int .u8 0) := rfl
  simp only [madeCells, Array.toList_map, List.mem_map, Value.cells] at hb
  obtain ⟨i, _, rfl⟩ := hb
  rw [e]
  have g : ∀ m j : Nat, j < m → (List.replicate m (Value.int .u8 0)).toArray[j]! = Value.int .u8 0 := fun m j h => by simp [h]
  exact g 32 (i % 32) (Nat.mod_lt _ (by decide))
theorem run_make_hashes (n : Nat) (hn : n ≤ 1000) (W : World) :
    (Instr.makeSlice 22 (.int .i64 (n : Int)) (.int .i64 (n : Int))).run Tryd.prog W = .ok (.slice (some ⟨W.heap.size, 0, none⟩) n n) (W.alloc (.cells (gsV (List.replicate n z32)).toArray 24)) := by
  obtain ⟨i0, hi, hz0, hz1, hz2⟩ := info_parts Tryd.infoG
  rw [run_make (P := Tryd.prog) W 22 24 i0 _ Tryd.underlying22 hi hz0 .i64 .i64 (n : Int) (n : Int) (by omega) (by omega) (by rw [hz2]; omega) (by omega), hz1]
  rw [Int.toNat_natCast]
  have e := made_gs n
  unfold z32 at e
  rw [e]
  rfl
theorem gs_splice {l : List (List Nat)} {k : Nat} {y : List Nat} (o : OkG l) (hk : k < l.length) (hy : y.length = 32) : splice (gsV l) (k * 32) (vals y) = gsV (l.take k ++ ([y] ++ l.drop (k + 1))) := by
  conv => lhs; rw [split_nt hk, gsV_app, gsV_app, gsV_one]
  rw [splice_mid (by rw [gsV_len (o.take k), List.length_take, Nat.min_eq_left (by omega)]) (by rw [vals_length, vals_length, hy, (nt_ok o hk).1]), gsV_app, gsV_app, gsV_one]
/-- j hashes y, the rest noughts. -/
def farRow (y : List Nat) (j n : Nat) : List (List Nat) := List.replicate j y ++ List.replicate (n - j) z32
theorem farRow_len {y : List Nat} {j n : Nat} (h : j ≤ n) : (farRow y j n).length = n := by unfold farRow; rw [List.length_append, List.length_replicate, List.length_replicate]; omega
theorem farRow_ok {y : List Nat} {j n : Nat} (oy : y.length = 32 ∧ AllB y) : OkG (farRow y j n) := OkG.app (fun x hx => by rw [List.eq_of_mem_replicate hx]; exact oy) (fun x hx => by rw [List.eq_of_mem_replicate hx]; exact z32_ok)
theorem farRow_next {y : List Nat} {j n : Nat} (h : j < n) : (farRow y j n).take j ++ ([y] ++ (farRow y j n).drop (j + 1)) = farRow y (j + 1) n := by
  unfold farRow
  have e : List.replicate (n - j) z32 = z32 :: List.replicate (n - (j + 1)) z32 := by rw [show n - j = (n - (j + 1)) + 1 by omega, List.replicate_succ]
  rw [e, List.take_left' (by simp), List.drop_append, List.drop_eq_nil_of_le (by simp), List.length_replicate, show j + 1 - j = 1 by omega, List.drop_one, List.tail_cons, List.replicate_succ', List.append_assoc, List.nil_append]
theorem farRow_full (y : List Nat) (n : Nat) : farRow y n n = List.replicate n y := by unfold farRow; simp

theorem far_pow {j : Nat} (h : j ≤ 32) : 1 ≤ (2 : Int) ^ j ∧ (2 : Int) ^ j ≤ 4294967296 := by
  have h1 : (2 : Nat) ^ j ≤ 2 ^ 32 := Nat.pow_le_pow_right (by decide) h
  have h2 : 0 < (2 : Nat) ^ j := Nat.pow_pos (by decide)
  have e : ((2 : Int) ^ j) = ((2 ^ j : Nat) : Int) := by rw [Int.natCast_pow]; rfl
  rw [e]
  exact ⟨by omega, by omega⟩
theorem far_cases {x y : List Nat} {f P : Int} {j : Nat} (hj : j ≤ 32) (hP : (2 : Int) ^ j = P) (h1 : 1 ≤ P) :
    (flE x (List.replicate j y) (P + f) = 1 ∧ 0 ≤ f) ∨ (flE x (List.replicate j y) (P + f) = 1 ∧ f < 0 ∧ P + f < 0) ∨ (flE x (List.replicate j y) (P + f) = 0 ∧ f < 0 ∧ 0 ≤ P + f) ∨ (flE x (List.replicate j y) (P + f) = 15 ∧ f < 0 ∧ 0 ≤ P + f) := by
  unfold flE
  rw [List.length_replicate, if_neg (by omega), hP]
  have q : 0 < (P + f) / P ↔ 0 ≤ f := by
    have := Int.le_ediv_iff_mul_le (a := 1) (b := P + f) (c := P) (by omega)
    omega
  by_cases a : 0 ≤ f
  · exact .inl ⟨by rw [if_pos (.inr (q.2 a))], a⟩
  · by_cases b : P + f < 0
    · exact .inr (.inl ⟨by rw [if_pos (.inl b)], by omega, b⟩)
    · rw [if_neg (by rintro (h | h); exact b h; exact a (q.1 h))]
      cases e : fold joinS x (List.replicate j y) (P + f).toNat with
      | none => exact .inr (.inr (.inr ⟨rfl, by omega, by omega⟩))
      | some r => exact .inr (.inr (.inl ⟨rfl, by omega, by omega⟩))

set_option maxRecDepth 100000 in
set_option maxHeartbeats 8000000 in
theorem far_law {o f : Int} {x y : List Nat} {w : World} (wo : -128 ≤ o ∧ o < 128) (ox : x.length = 32 ∧ AllB x) (oy : y.length = 32 ∧ AllB y) (wf : -128 ≤ f ∧ f < 128) (hLd : Laid w) :
    Calls Tryd.prog 8 #[.int .i8 o, .agg (vals x).toArray, .agg (vals y).toArray, .int .i8 f] w fun e w' => e = .returned (.bool true) ∧ Below w.heap.size w w' := by
  have HD := Lib.hid hLd
  have OX := Lib.hid ox
  have OY := Lib.hid oy
  have b1 := (Below.refl w.heap.size w).alloc (Nat.le_refl _) (.cells (vals x).toArray 24)
  have B0 := Lib.hid (b1.alloc b1.size (.cells (vals y).toArray 24))
  have RX := Lib.hid ((Ro.new w 24 (vals x)).alloc (.cells (vals y).toArray 24))
  have ry := Ro.new (w.alloc (.cells (vals x).toArray 24)) 24 (vals y)
  rw [World.size_alloc] at ry
  have RY := Lib.hid ry
  have lx := Lib.hid (show (vals x).length = 32 by rw [vals_length]; exact ox.1)
  have ly := Lib.hid (show (vals y).length = 32 by rw [vals_length]; exact oy.1)
  have lz := Lib.hid (show (vals z32).length = 32 by rw [vals_length]; exact z32_ok.1)
  have EQ := fun w => eq_hash ox.1 oy.1 w
  clear hLd ox oy b1 ry
  have fin : ∀ w1, Below w.heap.size w w1 → Calls Tryd.prog 9 #[] w1 fun e w' => e = .returned (.bool true) ∧ Below w.heap.size w w' := fun w1 b => (works_any w1 (HD.out.later HD.out.lt b)).mono fun e w' ⟨h1, h2⟩ => ⟨h1, b.trans (h2.mono b.size)⟩
  have FIN := Lib.hid fin
  clear fin
  have y0 : IntKind.i64.wrap (32 + o) = 32 + o := by rw [IntWalk.i64_in _ (by omega)]
  have y1 : IntKind.i64.wrap o = o := by rw [IntWalk.i64_in _ (by omega)]
  have y2 : IntKind.i64.wrap f = f := by rw [IntWalk.i64_in _ (by omega)]
  go_enter Tryd.func8, Tryd.ntmps8
  by_cases hN : 32 + o < 0
  · have t0 : decide (32 + o < 0) = true := decide_eq_true hN
    go_wp2_with fail
    refine (FIN.out _ B0.out).mono ?_
    rintro e w1 ⟨rfl, hb⟩
    have HB := Lib.hid hb
    clear hb
    go_wp2_with fail
    go_ret
    exact ⟨rfl, HB.out⟩
  have t0 : decide (32 + o < 0) = false := decide_eq_false hN
  by_cases hxy : x = y
  · rw [eqB_yes hxy] at EQ
    clear hxy
    go_wp2_with (first | (refine BigFrame.wpList_want (by rfl) fun K hK => wp_load_ro (.tmp 5) rfl rfl row26 RX.out lx.out (hK _ _ ?_)) | (refine BigFrame.wpList_want (by rfl) fun K hK => wp_load_ro (.tmp 6) rfl rfl row26 RY.out ly.out (hK _ _ ?_)))
    refine (FIN.out _ B0.out).mono ?_
    rintro e w1 ⟨rfl, hb⟩
    have HB := Lib.hid hb
    clear hb
    go_wp2_with fail
    go_ret
    exact ⟨rfl, HB.out⟩
  rw [eqB_no hxy] at EQ
  have HXY := Lib.hid hxy
  clear hxy
  obtain ⟨n, en⟩ : ∃ n : Nat, 32 + o = (n : Int) := ⟨(32 + o).toNat, by omega⟩
  rw [en] at y0 t0
  have hn : n < 160 := by omega
  have hmk := run_make_hashes n (by omega)
  go_wp2_with (first | (refine BigFrame.wpList_want (by rfl) fun K hK => wp_load_ro (.tmp 5) rfl rfl row26 RX.out lx.out (hK _ _ ?_)) | (refine BigFrame.wpList_want (by rfl) fun K hK => wp_load_ro (.tmp 6) rfl rfl row26 RY.out ly.out (hK _ _ ?_)))
  have LN := Lib.hid (farRow_full y n)
  have r0 := Ro.new ((w.alloc (.cells (vals x).toArray 24)).alloc (.cells (vals y).toArray 24)) 24 (gsV (farRow y 0 n))
  rw [World.size_alloc, World.size_alloc] at r0
  have R0 := Lib.hid r0
  have RX0 := Lib.hid (RX.out.alloc (.cells (gsV (List.replicate n z32)).toArray 24))
  have RY0 := Lib.hid (RY.out.alloc (.cells (gsV (List.replicate n z32)).toArray 24))
  have BB0 := Lib.hid (B0.out.alloc B0.out.size (.cells (gsV (List.replicate n z32)).toArray 24))
  have ad : ∀ o i, (⟨w.heap.size + 1 + 1, o, none⟩ : Addr).add i = ⟨w.heap.size + 1 + 1, o + i, none⟩ := add_at _
  clear r0 hmk EQ B0 RX RY en y0 t0 wo
  go_loopw [11] (fun i wr => ∃ j : Nat, j ≤ n ∧ i = .int .i64 (j : Nat) ∧ Ro wr (w.heap.size + 1 + 1) 24 (gsV (farRow y j n)) ∧ Ro wr w.heap.size 24 (vals x) ∧ Ro wr (w.heap.size + 1) 24 (vals y) ∧ Below w.heap.size w wr) (fun i _ => n - (intOf i).toNat)
  case atStart => exact ⟨0, Nat.zero_le _, rfl, R0.out, RX0.out, RY0.out, BB0.out⟩
  case round =>
    clear R0 RX0 RY0 BB0
    obtain ⟨j, hj, rfl, hr, hx, hy, hb⟩ := hrel
    have HR := Lib.hid hr
    have HX := Lib.hid hx
    have HY := Lib.hid hy
    have HB := Lib.hid hb
    clear hr hx hy hb
    by_cases hlt : j < n
    · have FN := Lib.hid (farRow_next (y := y) hlt)
      have SP := Lib.hid (gs_splice (farRow_ok (j := j) (n := n) OY.out) (k := j) (y := y) (by rw [farRow_len hj]; exact hlt) OY.out.1)
      have ln : Hid ((gsV (farRow y j n)).length = n * 32) := Lib.hid (by rw [gsV_len (farRow_ok OY.out), farRow_len hj])
      go_wp2_with (first | (refine wpList_load_ro rfl (.tmp 6) rfl rfl row26 HY.out ly.out ?_) | (refine wpList_store_part rfl (.tmp 37) (.tmp 36) rfl rfl rfl row26 HR.out (by rw [ln.out]; omega) ly.out (vals_one _) ?_))
      intro w4 R4 g4
      rw [SP.out, FN.out] at R4
      have HR4 := Lib.hid R4
      have HX4 := Lib.hid (HX.out.far g4 (fun e => by injection e; omega))
      have HY4 := Lib.hid (HY.out.far g4 (fun e => by injection e; omega))
      have HB4 := Lib.hid (HB.out.grown g4 HB.out.size (fun q e => by injection e; omega))
      clear R4 g4 HR HX HY HB
      go_wp2_with fail
      exact ⟨⟨j + 1, by omega, by go_num, HR4.out, HX4.out, HY4.out, HB4.out⟩, by simp [intOf]; omega⟩
    · obtain rfl : j = n := by omega
      rw [LN.out] at HR
      have GN : Hid (Gs wr (some ⟨w.heap.size + 1 + 1, 0, none⟩) j (List.replicate j y)) := Lib.hid (by
        have q := HR.out.gs (fun z hz => by rw [List.eq_of_mem_replicate hz]; exact OY.out)
        rwa [List.length_replicate] at q)
      have CF := foldC_any (c := j) (k := 0) wr (HD.out.later HD.out.lt HB.out) OX.out (by decide) GN.out
      have okV := (flV_ok (x := x) (l := List.replicate j y) (k := 0) OX.out).1
      have E0 : flE x (List.replicate j y) 0 = if 32 < j then 6 else 0 := by
        unfold flE
        rw [List.length_replicate]
        by_cases h : 32 < j
        · rw [if_pos h, if_pos h]
        · rw [if_neg h, if_neg h, if_neg (by rw [Int.zero_ediv]; omega)]
          cases e : fold joinS x (List.replicate j y) (Int.toNat 0) with
          | none => exact absurd e (fold_left joinS x y j)
          | some r => rfl
      rw [E0] at CF
      obtain ⟨V, hV⟩ : ∃ V, flV x (List.replicate j y) 0 = V := ⟨_, rfl⟩
      rw [hV] at CF okV
      have HCF := Lib.hid CF
      have lV := Lib.hid (show (vals V).length = 32 by rw [vals_length]; exact okV)
      clear CF okV hV E0 HR LN HY
      by_cases h32 : 32 < j
      · have t2 : decide ((32 : Int) < (j : Int)) = true := decide_eq_true (by omega)
        rw [if_pos h32] at HCF
        go_wp2_with (refine wpList_load_ro rfl (.tmp 5) rfl rfl row26 HX.out lx.out ?_)
        refine HCF.out.mono ?_
        rintro e w4 ⟨rfl, hb⟩
        have B4 := Lib.hid (HB.out.trans (hb.mono HB.out.size))
        clear hb HCF HB HX GN
        go_wp2_with (refine wpList_store_ro rfl (.tmp 12) (.tmp 42) rfl rfl rfl row26 (Ro.new w4 24 (vals z32)) lz.out lV.out (vals_one _) ?_)
        intro w5 R5 g5
        have B5 := Lib.hid (B4.out.trans ((box_store g5).mono B4.out.size))
        clear R5 g5 B4
        go_wp2_with fail
        refine (FIN.out _ B5.out).mono ?_
        rintro e w9 ⟨rfl, hb⟩
        have HB9 := Lib.hid hb
        clear hb
        go_wp2_with fail
        go_ret
        exact ⟨rfl, HB9.out⟩
      · have t2 : decide ((32 : Int) < (j : Int)) = false := decide_eq_false (by omega)
        rw [if_neg h32] at HCF
        go_wp2_with (refine wpList_load_ro rfl (.tmp 5) rfl rfl row26 HX.out lx.out ?_)
        refine HCF.out.mono ?_
        rintro e w4 ⟨rfl, hb⟩
        have B4 := Lib.hid (HB.out.trans (hb.mono HB.out.size))
        have X4 := Lib.hid (HX.out.later hb)
        have G4 := Lib.hid (GN.out.later hb)
        clear hb HCF HB HX GN
        go_wp2_with (refine wpList_store_ro rfl (.tmp 12) (.tmp 42) rfl rfl rfl row26 (Ro.new w4 24 (vals z32)) lz.out lV.out (vals_one _) ?_)
        intro w5 R5 g5
        have B5 := Lib.hid (B4.out.trans ((box_store g5).mono B4.out.size))
        have X5 := Lib.hid (X4.out.later (box_store g5))
        have G5 := Lib.hid (G4.out.later (box_store g5))
        clear R5 g5 B4 X4 G4
        have uw : IntKind.u64.wrap (j : Int) = (j : Int) := by rw [IntKind.wrap_u64]; omega
        have m1 : min j 64 = j := by omega
        obtain ⟨P, hP⟩ : ∃ P : Int, (2 : Int) ^ j = P := ⟨_, rfl⟩
        have P1 : 1 ≤ P ∧ P ≤ 4294967296 := by
          rw [← hP]
          exact far_pow (by omega)
        have pw : RowKit.wrap64 ((2 : Int) ^ j) = P := by rw [hP, IntWalk.wrap64_in _ (by omega)]
        have pf : RowKit.wrap64 (P + f) = P + f := by rw [IntWalk.wrap64_in _ (by omega)]
        have CG := foldC_any (c := j) (k := P + f) w5 (HD.out.later HD.out.lt B5.out) OX.out (by omega) G5.out
        have okV := (flV_ok (x := x) (l := List.replicate j y) (k := P + f) OX.out).1
        have CS := far_cases (x := x) (y := y) (f := f) (by omega : j ≤ 32) hP P1.1
        obtain ⟨E, hE⟩ : ∃ E, flE x (List.replicate j y) (P + f) = E := ⟨_, rfl⟩
        obtain ⟨U, hU⟩ : ∃ U, flV x (List.replicate j y) (P + f) = U := ⟨_, rfl⟩
        rw [hE] at CS
        rw [hE, hU] at CG
        rw [hU] at okV
        have HCG := Lib.hid CG
        have lU := Lib.hid (show (vals U).length = 32 by rw [vals_length]; exact okV)
        clear CG okV hE hU hP P1 G5
        rcases CS with ⟨rfl, h1⟩ | ⟨rfl, h1, h2⟩ | ⟨rfl, h1, h2⟩ | ⟨rfl, h1, h2⟩
        · have t3 : decide (0 ≤ f) = true := decide_eq_true h1
          clear h1
          go_wp2_with (refine wpList_load_ro rfl (.tmp 5) rfl rfl row26 X5.out lx.out ?_)
          refine HCG.out.mono ?_
          rintro e w6 ⟨rfl, hb⟩
          have B6 := Lib.hid (B5.out.trans (hb.mono B5.out.size))
          clear hb HCG B5 X5
          go_wp2_with (refine wpList_store_ro rfl (.tmp 14) (.tmp 61) rfl rfl rfl row26 (Ro.new w6 24 (vals z32)) lz.out lU.out (vals_one _) ?_)
          intro w7 R7 g7
          have B7 := Lib.hid (B6.out.trans ((box_store g7).mono B6.out.size))
          clear R7 g7 B6
          go_wp2_with fail
          refine (FIN.out _ B7.out).mono ?_
          rintro e w9 ⟨rfl, hb⟩
          have HB9 := Lib.hid hb
          clear hb
          go_wp2_with fail
          go_ret
          exact ⟨rfl, HB9.out⟩
        · have t3 : decide (0 ≤ f) = false := decide_eq_false (by omega)
          have t4 : decide (P + f < 0) = true := decide_eq_true h2
          clear h1 h2
          go_wp2_with (refine wpList_load_ro rfl (.tmp 5) rfl rfl row26 X5.out lx.out ?_)
          refine HCG.out.mono ?_
          rintro e w6 ⟨rfl, hb⟩
          have B6 := Lib.hid (B5.out.trans (hb.mono B5.out.size))
          clear hb HCG B5 X5
          go_wp2_with (refine wpList_store_ro rfl (.tmp 14) (.tmp 61) rfl rfl rfl row26 (Ro.new w6 24 (vals z32)) lz.out lU.out (vals_one _) ?_)
          intro w7 R7 g7
          have B7 := Lib.hid (B6.out.trans ((box_store g7).mono B6.out.size))
          clear R7 g7 B6
          go_wp2_with fail
          refine (FIN.out _ B7.out).mono ?_
          rintro e w9 ⟨rfl, hb⟩
          have HB9 := Lib.hid hb
          clear hb
          go_wp2_with fail
          go_ret
          exact ⟨rfl, HB9.out⟩
        · have t3 : decide (0 ≤ f) = false := decide_eq_false (by omega)
          have t4 : decide (P + f < 0) = false := decide_eq_false (by omega)
          clear h1 h2
          go_wp2_with (refine wpList_load_ro rfl (.tmp 5) rfl rfl row26 X5.out lx.out ?_)
          refine HCG.out.mono ?_
          rintro e w6 ⟨rfl, hb⟩
          have B6 := Lib.hid (B5.out.trans (hb.mono B5.out.size))
          clear hb HCG B5 X5
          go_wp2_with (refine wpList_store_ro rfl (.tmp 14) (.tmp 61) rfl rfl rfl row26 (Ro.new w6 24 (vals z32)) lz.out lU.out (vals_one _) ?_)
          intro w7 R7 g7
          have B7 := Lib.hid (B6.out.trans ((box_store g7).mono B6.out.size))
          clear R7 g7 B6
          go_wp2_with fail
          refine (FIN.out _ B7.out).mono ?_
          rintro e w9 ⟨rfl, hb⟩
          have HB9 := Lib.hid hb
          clear hb
          go_wp2_with fail
          go_ret
          exact ⟨rfl, HB9.out⟩
        · have t3 : decide (0 ≤ f) = false := decide_eq_false (by omega)
          have t4 : decide (P + f < 0) = false := decide_eq_false (by omega)
          clear h1 h2
          go_wp2_with (refine wpList_load_ro rfl (.tmp 5) rfl rfl row26 X5.out lx.out ?_)
          refine HCG.out.mono ?_
          rintro e w6 ⟨rfl, hb⟩
          have B6 := Lib.hid (B5.out.trans (hb.mono B5.out.size))
          clear hb HCG B5 X5
          go_wp2_with (refine wpList_store_ro rfl (.tmp 14) (.tmp 61) rfl rfl rfl row26 (Ro.new w6 24 (vals z32)) lz.out lU.out (vals_one _) ?_)
          intro w7 R7 g7
          have B7 := Lib.hid (B6.out.trans ((box_store g7).mono B6.out.size))
          clear R7 g7 B6
          go_wp2_with fail
          refine (FIN.out _ B7.out).mono ?_
          rintro e w9 ⟨rfl, hb⟩
          have HB9 := Lib.hid hb
          clear hb
          go_wp2_with fail
          go_ret
          exact ⟨rfl, HB9.out⟩
end Go.Proofs.YtdenibigefchpaaDoor
