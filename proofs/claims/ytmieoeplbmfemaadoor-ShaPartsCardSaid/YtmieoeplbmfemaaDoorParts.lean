/- ShaParts: bytes added in parts. No condition but the statement's own. -/
import Derived.Test.YtmieoeplbmfemaaDoorPs
namespace Go.Proofs.YtmieoeplbmfemaaDoor
open Go.RowKit

def pre (f : Nat → List Nat) : Nat → List Nat
  | 0 => []
  | i + 1 => pre f i ++ f i
def sts (f : Nat → List Nat) : Nat → List Value
  | 0 => stateL []
  | i + 1 => sts f i ++ stateL (pre f (i + 1))
def lnV (f : Nat → List Nat) (i : Nat) : Value := .int .i64 ((pre f i).length : Int)
def lns (f : Nat → List Nat) : Nat → List Value
  | 0 => [lnV f 0]
  | i + 1 => lns f i ++ [lnV f (i + 1)]
theorem sts_len (f : Nat → List Nat) : ∀ i, (sts f i).length = (i + 1) * 73
  | 0 => by rw [sts, stateL_len]
  | i + 1 => by rw [sts, List.length_append, sts_len f i, stateL_len]; omega
theorem lns_len (f : Nat → List Nat) : ∀ i, (lns f i).length = i + 1
  | 0 => rfl
  | i + 1 => by rw [lns, List.length_append, lns_len f i]; rfl
theorem sts_get (f : Nat → List Nat) : ∀ i j q, j ≤ i → q < 73 → (sts f i)[j * 73 + q]? = (stateL (pre f j))[q]?
  | 0, j, q, hj, _ => by
    obtain rfl : j = 0 := by omega
    rw [sts, Nat.zero_mul, Nat.zero_add]; rfl
  | i + 1, j, q, hj, hq => by
    rw [sts]
    by_cases h : j ≤ i
    · rw [List.getElem?_append_left (by rw [sts_len]; omega), sts_get f i j q h hq]
    · obtain rfl : j = i + 1 := by omega
      rw [List.getElem?_append_right (by rw [sts_len]; omega), sts_len]
      congr 1
      omega
theorem lns_get (f : Nat → List Nat) : ∀ i j, j ≤ i → (lns f i)[j]? = some (lnV f j)
  | 0, j, hj => by
    obtain rfl : j = 0 := by omega
    rfl
  | i + 1, j, hj => by
    rw [lns]
    by_cases h : j ≤ i
    · rw [List.getElem?_append_left (by rw [lns_len]; omega), lns_get f i j h]
    · obtain rfl : j = i + 1 := by omega
      rw [List.getElem?_append_right (by rw [lns_len]; omega), lns_len, Nat.sub_self]
      rfl
theorem pre_mono (f : Nat → List Nat) : ∀ i j, j ≤ i → ∃ M, pre f i = pre f j ++ M
  | 0, j, hj => ⟨[], by obtain rfl : j = 0 := by omega
                        rfl⟩
  | i + 1, j, hj => by
    by_cases h : j ≤ i
    · obtain ⟨M, hM⟩ := pre_mono f i j h
      exact ⟨M ++ f i, by rw [pre, hM, List.append_assoc]⟩
    · obtain rfl : j = i + 1 := by omega
      exact ⟨[], by rw [List.append_nil]⟩

structure PaA (w : World) (f : Nat → List Nat) (a b c N : Nat) (v3 v4 v5 : Value) (wr : World) : Prop where
  all : Own w v3 N (pre f a) wr
  st : wr.ownsRow w.heap.size 38 73 v4 (b + 1) (sts f b)
  ln : wr.ownsRow w.heap.size 3 1 v5 (c + 1) (lns f c)
  n34 : ∀ k, v3.ownBlock = some k → v4.ownBlock ≠ some k
  n35 : ∀ k, v3.ownBlock = some k → v5.ownBlock ≠ some k
  n45 : ∀ k, v4.ownBlock = some k → v5.ownBlock ≠ some k
section
variable {w : World} {f : Nat → List Nat} {a b c N : Nat} {v3 v4 v5 v' : Value} {wr w1 : World}
theorem PaA.later (P : PaA w f a b c N v3 v4 v5 wr) (g : Below wr.heap.size wr w1) : PaA w f a b c N v3 v4 v5 w1 := ⟨P.all.later g, ownsRow_later P.st g, ownsRow_later P.ln g, P.n34, P.n35, P.n45⟩
theorem blk_or (v : Value) : v.ownBlock = none ∨ ∃ k, v.ownBlock = some k := by cases h : v.ownBlock <;> simp
theorem own_kept {w wr w1 : World} {v : Value} {n : Nat} {L : List Nat} {row : Option Nat} (h : Own w v n L wr) (g : wr.grownBy w1 row) (hr : v.ownBlock = none ∨ v.ownBlock ≠ row) (hb : ∀ k, row = some k → w.heap.size ≤ k) : Own w v n L w1 :=
  ⟨h.row.kept g hr, h.byt, h.bel.grown g h.bel.size hb⟩
theorem PaA.app3 {M : Nat} (P : PaA w f a b c N v3 v4 v5 wr) (O : Own w v' M (pre f (a + 1)) w1) (g : wr.grownBy w1 v3.ownBlock) (hv : v'.ownBlock = v3.ownBlock ∨ v'.ownBlock = some wr.heap.size) : PaA w f (a + 1) b c M v' v4 v5 w1 := by
  have k4 : ∀ k, v4.ownBlock = some k → v3.ownBlock ≠ some k := fun k e e2 => P.n34 k e2 e
  have k5 : ∀ k, v5.ownBlock = some k → v3.ownBlock ≠ some k := fun k e e2 => P.n35 k e2 e
  refine ⟨O, P.st.kept g ?_, P.ln.kept g ?_, ?_, ?_, P.n45⟩
  · rcases blk_or v4 with h | ⟨k, h⟩
    · exact .inl h
    · exact .inr (by rw [h]; exact fun e => k4 k h e.symm)
  · rcases blk_or v5 with h | ⟨k, h⟩
    · exact .inl h
    · exact .inr (by rw [h]; exact fun e => k5 k h e.symm)
  · intro k e e4
    rcases hv with h | h
    · exact P.n34 k (by rw [← h]; exact e) e4
    · rw [h] at e
      injection e with e
      have := (P.st.lt k e4).2
      omega
  · intro k e e5
    rcases hv with h | h
    · exact P.n35 k (by rw [← h]; exact e) e5
    · rw [h] at e
      injection e with e
      have := (P.ln.lt k e5).2
      omega
theorem PaA.app4 (P : PaA w f a b c N v3 v4 v5 wr) (O : w1.ownsRow w.heap.size 38 73 v' (b + 1 + 1) (sts f b ++ stateL (pre f (b + 1)))) (g : wr.grownBy w1 v4.ownBlock) (hv : v'.ownBlock = v4.ownBlock ∨ v'.ownBlock = some wr.heap.size) : PaA w f a (b + 1) c N v3 v' v5 w1 := by
  refine ⟨own_kept P.all g ?_ (fun k e => (P.st.lt k e).1), O, P.ln.kept g ?_, ?_, P.n35, ?_⟩
  · rcases blk_or v3 with h | ⟨k, h⟩
    · exact .inl h
    · exact .inr (by rw [h]; exact fun e => P.n34 k h e.symm)
  · rcases blk_or v5 with h | ⟨k, h⟩
    · exact .inl h
    · exact .inr (by rw [h]; exact fun e => P.n45 k e.symm h)
  · intro k e e4
    rcases hv with h | h
    · exact P.n34 k e (by rw [← h]; exact e4)
    · rw [h] at e4
      injection e4 with e4
      have := (P.all.row.lt k e).2
      omega
  · intro k e e5
    rcases hv with h | h
    · exact P.n45 k (by rw [← h]; exact e) e5
    · rw [h] at e
      injection e with e
      have := (P.ln.lt k e5).2
      omega
theorem PaA.app5 (P : PaA w f a b c N v3 v4 v5 wr) (O : w1.ownsRow w.heap.size 3 1 v' (c + 1 + 1) (lns f c ++ [lnV f (c + 1)])) (g : wr.grownBy w1 v5.ownBlock) (hv : v'.ownBlock = v5.ownBlock ∨ v'.ownBlock = some wr.heap.size) : PaA w f a b (c + 1) N v3 v4 v' w1 := by
  refine ⟨own_kept P.all g ?_ (fun k e => (P.ln.lt k e).1), P.st.kept g ?_, O, P.n34, ?_, ?_⟩
  · rcases blk_or v3 with h | ⟨k, h⟩
    · exact .inl h
    · exact .inr (by rw [h]; exact fun e => P.n35 k h e.symm)
  · rcases blk_or v4 with h | ⟨k, h⟩
    · exact .inl h
    · exact .inr (by rw [h]; exact fun e => P.n45 k h e.symm)
  · intro k e e5
    rcases hv with h | h
    · exact P.n35 k e (by rw [← h]; exact e5)
    · rw [h] at e5
      injection e5 with e5
      have := (P.all.row.lt k e).2
      omega
  · intro k e e5
    rcases hv with h | h
    · exact P.n45 k e (by rw [← h]; exact e5)
    · rw [h] at e5
      injection e5 with e5
      have := (P.st.lt k e).2
      omega
end
theorem stateL_nil' : stateL [] = stV (List.replicate 8 0) (List.replicate 64 0) 0 := rfl
def lenV3 : Value → Nat | .slice _ n _ => n | _ => 0
theorem xor5a (x : Nat) : ∃ y : Nat, y < 256 ∧ bits .xor .u8 (x : Int) 90 = (y : Int) := by
  refine ⟨(bits .xor .u8 (x : Int) 90).toNat, ?_, ?_⟩
  · show (IntKind.u8.wrap _).toNat < 256
    simp only [IntKind.wrap, IntKind.bits, IntKind.signed]
    simp
    omega
  · rw [Int.toNat_of_nonneg]
    show 0 ≤ IntKind.u8.wrap _
    simp only [IntKind.wrap, IntKind.bits, IntKind.signed]
    simp
    omega

set_option maxRecDepth 100000 in
set_option maxHeartbeats 8000000 in
theorem parts_law {A : Option Addr} {n c : Nat} {f : Nat → List Nat} {w : World} (hc : n ≤ c) (_ : c ≤ 9223372036854775807) (hL : LsIn w A n f) (hLd : Laid w) :
    Calls Tryd.prog 5 #[.slice A n c] w fun e w' => e = .returned (.bool true) ∧ Below w.heap.size w w' := by
  have HD := Lib.hid hLd
  have HL := Lib.hid hL
  clear hLd hL
  go_enter Tryd.func5, Tryd.ntmps5
  by_cases hbig : 60 < n
  · have t1 : decide ((60 : Int) < (n : Int)) = true := decide_eq_true (by omega)
    go_wp2_with fail
    refine (works_any _ HD.out).mono ?_
    rintro e w1 ⟨rfl, hb⟩
    have HB := Lib.hid hb
    clear hb
    go_wp2_with fail
    go_ret
    exact ⟨rfl, HB.out⟩
  · have t1 : decide ((60 : Int) < (n : Int)) = false := decide_eq_false (by omega)
    obtain ⟨v0, hv0⟩ : ∃ v, stateV [] = v := ⟨_, rfl⟩
    have CB := Lib.hid begin_st
    rw [hv0] at CB
    go_wp2_with fail
    refine (CB.out _).mono ?_
    rintro e w1 ⟨rfl, hb⟩
    have B1 := Lib.hid hb
    clear hb CB
    rw [← hv0, stateV_def]
    clear hv0 v0
    have S1 := Ro.new w1 38 (stateL [])
    have G1 := (Below.refl w1.heap.size w1).alloc (Nat.le_refl _) (.cells (stateL []).toArray 38)
    have hS1 := Lib.hid S1
    have hG1 := Lib.hid G1
    clear S1 G1
    go_wp2_with (refine wpList_litS rfl (.tmp 17) rfl rfl (stateL_len _) ?_)
    have P0 : Hid (PaA w f 0 0 0 0 (.slice none 0 0) (.slice (some ⟨w1.heap.size, 0, none⟩) 1 1) (.slice (some ⟨w1.heap.size + 1, 0, none⟩) 1 1) ((w1.alloc (.cells (stateL []).toArray 38)).alloc (.cells #[.int .i64 0] 3))) := Lib.hid (by
      have z1 := B1.out.size
      have R1 := hS1.out.alloc (.cells #[.int .i64 0] 3)
      have R2 := Ro.new (w1.alloc (.cells (stateL []).toArray 38)) 3 [.int .i64 0]
      rw [World.size_alloc] at R2
      have b2 : Below w.heap.size w ((w1.alloc (.cells (stateL []).toArray 38)).alloc (.cells #[.int .i64 0] 3)) := (B1.out.alloc z1 _).alloc (by simp; omega) _
      refine ⟨⟨⟨rfl, .inl ⟨rfl, rfl⟩⟩, allB_nil, b2⟩, ⟨by rw [sts_len], .inr ⟨w1.heap.size, 1, (stateL []).toArray, rfl, z1, R1, Nat.le_refl _, by unfold maxLen; omega, by simp [stateL_len], ?_⟩⟩, ⟨rfl, .inr ⟨w1.heap.size + 1, 1, #[.int .i64 0], rfl, by omega, R2, Nat.le_refl _, by unfold maxLen; omega, rfl, rfl⟩⟩, (fun k e => by cases e), (fun k e => by cases e), fun k e e2 => ?_⟩
      · show (stateL []).take 73 = _
        rw [List.take_of_length_le (by rw [stateL_len]; exact Nat.le_refl _)]
        rfl
      · injection e with e
        injection e2 with e2
        simp at e e2
        omega)
    clear hS1 hG1
    obtain ⟨v4, hv4⟩ : ∃ v, v = Value.slice (some ⟨w1.heap.size, 0, none⟩) 1 1 := ⟨_, rfl⟩
    obtain ⟨v5, hv5⟩ : ∃ v, v = Value.slice (some ⟨w1.heap.size + 1, 0, none⟩) 1 1 := ⟨_, rfl⟩
    go_loopw [3, 4, 5, 6] (fun v3 v4 v5 i wr => ∃ k N : Nat, k ≤ n ∧ i = .int .i64 (k : Nat) ∧ N ≤ 4096 ∧ PaA w f k k k N v3 v4 v5 wr) (fun _ _ _ i _ => n - (intOf i).toNat)
    case atStart => exact ⟨0, 0, Nat.zero_le _, rfl, by omega, P0.out⟩
    case round =>
      clear P0 hv4 hv5 v4 v5
      obtain ⟨k, N, hk, rfl, hN, P⟩ := hrel
      obtain ⟨A3, c3, h3, hc3⟩ := P.all.shape
      obtain ⟨g4, c4, h4, _⟩ := P.st.form (Nat.succ_pos k)
      obtain ⟨g5, c5, h5, _⟩ := P.ln.form (Nat.succ_pos k)
      subst h3 h4 h5
      have HP := Lib.hid P
      clear P
      by_cases hlt : k < n
      · have t2 : decide ((k : Int) < (n : Int)) = true := decide_eq_true (by omega)
        obtain ⟨a, B, m, q, hA, hab, hcell, hmq, hm, hB⟩ := HL.out k hlt
        subst hA
        have cl : wr.cell? (a.add k) = some (.slice B m q) := cell_later HP.out.all.bel hcell
        have BB := Lib.hid hB
        by_cases hfit : N + m ≤ 4096
        · have t3 : decide ((4096 : Int) < (N : Int) + (m : Int)) = false := decide_eq_false (by omega)
          obtain ⟨S1, hS1⟩ : ∃ S, stateL (pre f k) = S := ⟨_, rfl⟩
          obtain ⟨S2, hS2⟩ : ∃ S, stateL (pre f (k + 1)) = S := ⟨_, rfl⟩
          have lp : (pre f k).length = N := HP.out.all.len
          have SL1 : Hid (S1.length = 73) := Lib.hid (by rw [← hS1]; exact stateL_len _)
          have SL2 : Hid (S2.length = 73) := Lib.hid (by rw [← hS2]; exact stateL_len _)
          have SO2 : Hid (∀ u ∈ S2, u.oneCell' = true) := Lib.hid (by rw [← hS2]; exact stateL_one _)
          have H1 := Lib.hid hS1
          have H2 := Lib.hid hS2
          have CA : Hid (∀ (u : World) (A' : Option Addr) (c' : Nat), Laid u → Bs u A' m (f k) → m ≤ c' → Calls Tryd.prog 16 #[.agg S1.toArray, .slice A' m c'] u fun e w' => e = .returned (.agg S2.toArray) ∧ Below u.heap.size u w') := Lib.hid (fun u A' c' h1 h2 h3 => by
            rw [← hS1, ← hS2, ← stateV_def, ← stateV_def]
            exact addm_st (L := pre f k) (M := f k) BB.out.len HP.out.all.byt BB.out.byt (by omega) (by omega) u h1 h2 h3)
          clear hS1 hS2
          go_wp2_with fail
          refine (copied_any _ (by omega) (BB.out.later HP.out.all.bel)).mono ?_
          rintro e w2 ⟨Ax, nx, cx, rfl, hcx, O⟩
          obtain rfl : m = nx := BB.out.len.symm.trans O.len
          have OX := Lib.hid O
          have P2 := Lib.hid (HP.out.later O.bel)
          have W2 := Lib.hid O.bel
          clear O
          have rg : Hid (∀ (u : World), Below w2.heap.size w2 u → u.rangeAt g4 (k * 73) S1) := Lib.hid (fun u b j v hv => by
            have hj : j < 73 := by have := (List.getElem?_eq_some_iff.1 hv).1; rw [SL1.out] at this; exact this
            have h := (P2.out.later b).st.cellAt (k * 73 + j) (by omega)
            rw [h, sts_get f k k j (Nat.le_refl _) hj, H1.out]
            exact hv)
          go_wp2_with (refine wpList_load_part rfl (.tmp 44) rfl rfl row38 (rg.out _ (Below.refl _ _)) SL1.out ?_)
          clear rg P2
          refine (CA.out _ _ _ (HD.out.later HD.out.lt (HP.out.all.bel.trans (W2.out.mono HP.out.all.bel.size))) OX.out.reads hcx).mono ?_
          rintro e w3 ⟨rfl, hb⟩
          replace OX := Lib.hid (OX.out.later hb)
          clear hb W2 CA
          have z0 := zero38
          go_wp2_with (refine wpList_store_ro rfl (.tmp 8) (.tmp 47) rfl rfl rfl row38 (Ro.new w3 38 (stV (List.replicate 8 0) (List.replicate 64 0) 0)) (stV_len rfl rfl) SL2.out SO2.out ?_)
          intro w4 r0 g0
          have b0 := box_store g0
          have R8 := Lib.hid r0
          have XB : Hid (∀ q, Value.ownBlock (.slice Ax m cx) = some q → q < w3.heap.size) := Lib.hid (fun q e => (OX.out.new q e).2)
          have Z8 : Hid (wr.heap.size ≤ w3.heap.size) := Lib.hid OX.out.size
          replace OX := Lib.hid (OX.out.later b0)
          clear r0 g0 b0 z0
          go_wp2_with fail
          obtain ⟨b8, hb8⟩ : ∃ b, b = w3.heap.size := ⟨_, rfl⟩
          rw [← hb8] at R8 XB Z8 ⊢
          clear hb8
          obtain ⟨wo, hwo⟩ : ∃ wo : World, wo = wr := ⟨_, rfl⟩
          rw [← hwo] at HP OX Z8
          clear cl hwo
          go_loopw [9] (fun i wr => ∃ (j : Nat) (M' : List Nat), j ≤ m ∧ i = .int .i64 (j : Nat) ∧ Own wo (.slice Ax m cx) m M' wr ∧ Ro wr b8 38 S2) (fun i _ => m - (intOf i).toNat)
          case atStart => exact ⟨0, f k, Nat.zero_le _, rfl, OX.out, R8.out⟩
          case round =>
            clear OX R8
            obtain ⟨j, M', hj, rfl, O, R⟩ := hrel
            have HO := Lib.hid O
            have HR := Lib.hid R
            clear O R
            by_cases hlt2 : j < m
            · have t4 : decide ((j : Int) < (m : Int)) = true := decide_eq_true (by omega)
              obtain ⟨gx, cx', hx, hgx, _⟩ := HO.out.row.form (by omega)
              injection hx with hx1 hx2 hx3
              subst hx1 hx3
              have ec : (⟨gx, 0, none⟩ : Addr).add j = ⟨gx, j, none⟩ := by unfold Addr.add; split <;> simp_all
              have ml : M'.length = m := HO.out.len
              have c1 := HO.out.row.cells rfl j _ (vals_get M' j (by omega))
              rw [ec] at c1
              have f1 := HO.out.row.frozenAt j
              obtain ⟨y, hy, ey⟩ := xor5a (nth M' j)
              obtain ⟨x, hx⟩ : ∃ x, nth M' j = x := ⟨_, rfl⟩
              rw [hx] at c1 ey
              have ON : Hid (Own wo (.slice (some ⟨gx, 0, none⟩) m cx) m (M'.set j y) (wr.setCell ⟨gx, j, none⟩ (.int .u8 (y : Int)))) := Lib.hid ⟨by rw [← vals_set]; exact (HO.out.row.stored j _).1, fun z hz => by
                rcases List.mem_or_eq_of_mem_set hz with h | h
                · exact HO.out.byt z h
                · subst h; exact hy, HO.out.bel.setCell hgx _⟩
              have RN : Hid (Ro (wr.setCell ⟨gx, j, none⟩ (.int .u8 (y : Int))) b8 38 S2) := Lib.hid (HR.out.other (by have := XB.out gx rfl; omega) _)
              clear HO HR hx ec ml hgx
              go_wp2_with fail
              exact ⟨⟨j + 1, M'.set j y, by omega, by go_num, ON.out, RN.out⟩, by simp [intOf]; omega⟩
            · obtain rfl : j = m := by omega
              have P3 := Lib.hid (HP.out.later HO.out.bel)
              have B3 := Lib.hid (HP.out.all.bel.trans (HO.out.bel.mono HP.out.all.bel.size))
              have z3 : wo.heap.size ≤ wr.heap.size := HO.out.size
              have Z3 := Lib.hid z3
              have V3 : Hid (∀ q, Value.ownBlock (.slice A3 N c3) = some q → q < b8) := Lib.hid (fun q e => Nat.lt_of_lt_of_le (HP.out.all.row.lt q e).2 Z8.out)
              have cl : wr.cell? (a.add k) = some (.slice B j q) := cell_later B3.out hcell
              obtain ⟨A6, c6, w6, r6, O6, g6, n6⟩ := run_appB 22 P3.out.all (BB.out.later B3.out) (c := q) (by omega)
              have P6 := Lib.hid (P3.out.app3 O6 g6 n6)
              have R6 := Lib.hid (HR.out.far g6 (fun e => by have := V3.out b8 e.symm; omega))
              clear O6 g6 n6 P3 HR HO z3
              have lp7 : ((pre f (k + 1)).length : Int) = (N : Int) + (j : Int) := by have := P6.out.all.len; omega
              have gA := (Below.refl w6.heap.size w6).alloc (Nat.le_refl _) (.cells S2.toArray 38)
              obtain ⟨A7, c7, w7, r7, O7, g7, n7⟩ := run_appS 40 (P6.out.later gA).st (Nat.le_trans P6.out.all.bel.size gA.size) (Ro.new w6 38 S2) SL2.out SO2.out (by omega)
              rw [← H2.out] at O7
              have P7 := Lib.hid ((P6.out.later gA).app4 O7 g7 n7)
              clear O7 g7 n7 gA
              have gB := (Below.refl w7.heap.size w7).alloc (Nat.le_refl _) (.cells #[.int .i64 ((N : Int) + (j : Int))] 3)
              obtain ⟨A8, c8, w8, r8, O8, g8, n8⟩ := run_appI 41 (P7.out.later gB).ln (Nat.le_trans P7.out.all.bel.size gB.size) (Ro.new w7 3 [.int .i64 ((N : Int) + (j : Int))]) rfl (by omega)
              have P8 := Lib.hid ((P7.out.later gB).app5 (by unfold lnV; rw [lp7]; exact O8) g8 n8)
              clear O8 g8 n8 gB lp7 P7 P6
              have b2 : N + j ≤ 4096 := hfit
              go_wp2_with (first | (at_builtin; first | (refine wpList_apprun rfl (.tmp 62) (.tmp 66) 22 rfl rfl rfl r6 ?_) | (refine wpList_apprun rfl (.tmp 68) (.tmp 70) 40 rfl rfl rfl r7 ?_) | (refine wpList_apprun rfl (.tmp 72) (.tmp 75) 41 rfl rfl rfl r8 ?_)) | (refine wpList_load_ro rfl (.tmp 8) rfl rfl row38 R6.out SL2.out ?_) | (refine wpList_litS rfl (.tmp 69) rfl rfl SL2.out ?_))
              exact ⟨⟨k + 1, N + j, by omega, by go_num, b2, P8.out⟩, by simp [intOf]; omega⟩
        · have t3 : decide ((4096 : Int) < (N : Int) + (m : Int)) = true := decide_eq_true (by omega)
          go_wp2_with fail
          clear t1 t2 t3 cl
          go_loopw [10] (fun i wr => ∃ j : Nat, j ≤ k + 1 ∧ i = .int .i64 (j : Nat) ∧ PaA w f k k k N (.slice A3 N c3) (.slice (some ⟨g4, 0, none⟩) (k + 1) c4) (.slice (some ⟨g5, 0, none⟩) (k + 1) c5) wr) (fun i _ => k + 1 - (intOf i).toNat)
          case atStart => exact ⟨0, by omega, rfl, HP.out⟩
          case round =>
            clear HP
            obtain ⟨j, hj, rfl, P⟩ := hrel
            have HP := Lib.hid P
            clear P
            by_cases hjk : j < k + 1
            · have t5 : decide ((j : Int) < (k : Int) + 1) = true := decide_eq_true (by omega)
              obtain ⟨M, hM⟩ := pre_mono f k j (by omega)
              obtain ⟨l, hl⟩ : ∃ l, (pre f j).length = l := ⟨_, rfl⟩
              have hlN : l ≤ N := by have h := HP.out.all.len; rw [hM, List.length_append, hl] at h; omega
              have bh := HP.out.all.reads
              rw [hM] at bh
              have BH := Lib.hid (bh.head hl)
              have cI : wr.cell? ⟨g5, j, none⟩ = some (.int .i64 (l : Int)) := by
                have h := HP.out.ln.cellAt j (by omega)
                rw [h, lns_get f k j (by omega)]
                unfold lnV
                rw [hl]
              obtain ⟨G1, G2, SS, hq⟩ := sumsOf HD.out hl BH.out.byt (by omega)
              obtain ⟨S1, hS1⟩ : ∃ S, stateL (pre f j) = S := ⟨_, rfl⟩
              have SL1 : Hid (S1.length = 73) := Lib.hid (by rw [← hS1]; exact stateL_len _)
              have CE : Hid (∀ u, Below w.heap.size w u → Calls Tryd.prog 17 #[.agg S1.toArray] u fun e w' => e = .returned (.agg (vals G1).toArray) ∧ Below u.heap.size u w') := Lib.hid (fun u b => by
                rw [← hS1, ← stateV_def, hq]
                exact end_st BH.out.byt (by omega) u (HD.out.later HD.out.lt b))
              have rg : Hid (∀ (u : World), Below wr.heap.size wr u → u.rangeAt g4 (j * 73) S1) := Lib.hid (fun u b i v hv => by
                have hi : i < 73 := by have := (List.getElem?_eq_some_iff.1 hv).1; rw [SL1.out] at this; exact this
                have h := (HP.out.later b).st.cellAt (j * 73 + i) (by omega)
                rw [h, sts_get f k j i (by omega) hi, hS1]
                exact hv)
              have HS := Lib.hid SS
              have HQ := Lib.hid hS1
              have EQ := eq_same SS.l1
              clear bh hM hq hS1 SS
              go_wp2_with fail
              refine (HS.out.r1 _ _ _ BH.out).mono ?_
              rintro e w2 ⟨rfl, hb⟩
              have Y2 := Lib.hid hb
              clear hb BH
              go_wp2_with (refine wpList_store_ro rfl (.tmp 11) (.tmp 89) rfl rfl rfl row26 (Ro.new w2 26 (vals (List.replicate 32 0))) (by simp [vals]) (by rw [vals_length]; exact HS.out.l1) (vals_one _) ?_)
              intro w3 r0 g0
              have b0 := box_store g0
              have R11 := Lib.hid r0
              have Y3 := Lib.hid (Y2.out.trans (b0.mono Y2.out.size))
              clear r0 g0 b0 Y2
              have B3 := Lib.hid (HP.out.all.bel.trans (Y3.out.mono HP.out.all.bel.size))
              go_wp2_with fail
              have E1 : Hid (∀ u : After w3, Calls Tryd.prog 17 #[.agg S1.toArray] u.w fun e w' => e = .returned (.agg (vals G1).toArray) ∧ Below u.w.heap.size u.w w') := Lib.hid (fun u => CE.out u.w (B3.out.trans (u.below.mono B3.out.size)))
              have RG : Hid (∀ u : After w3, u.w.rangeAt g4 (j * 73) S1) := Lib.hid (fun u => rg.out u.w (Y3.out.trans (u.below.mono Y3.out.size)))
              refine wp_region_after (by kernel_rfl) (by kernel_rfl) ?_
              repeat (go_big_quiet_step (fail))
              go_big_quiet_want
              refine quiet_load_part (.tmp 92) rfl rfl row38 (fun w9 h9 => by obtain ⟨u, rfl⟩ := h9; exact RG.out u) SL1.out ?_
              simp only [Act.put, List.setIfInBounds_toArray, List.set_cons_succ, List.set_cons_zero]
              go_big_quiet_on
              go_big_quiet_step (exact after_call (E1.out _))
              go_big_quiet_want
              refine quiet_load_part (.tmp 11) rfl rfl row26 (fun w9 h9 => by obtain ⟨u, rfl⟩ := h9; exact rangeAt_later R11.out R11.out.whole u.below) (by rw [vals_length]; exact HS.out.l1) ?_
              simp only [Act.put, List.setIfInBounds_toArray, List.set_cons_succ, List.set_cons_zero]
              go_big_quiet_on
              repeat (go_big_quiet_step (fail))
              go_big_quiet_want
              refine quiet_load_part (.tmp 100) rfl rfl row38 (fun w9 h9 => by obtain ⟨u, rfl⟩ := h9; exact RG.out u) SL1.out ?_
              simp only [Act.put, List.setIfInBounds_toArray, List.set_cons_succ, List.set_cons_zero]
              go_big_quiet_on
              go_big_quiet_step (exact after_call (E1.out _))
              go_big_quiet_want
              refine quiet_load_part (.tmp 11) rfl rfl row26 (fun w9 h9 => by obtain ⟨u, rfl⟩ := h9; exact rangeAt_later R11.out R11.out.whole u.below) (by rw [vals_length]; exact HS.out.l1) ?_
              simp only [Act.put, List.setIfInBounds_toArray, List.set_cons_succ, List.set_cons_zero]
              go_big_quiet_on
              repeat (go_big_quiet_step (fail))
              refine wpQuiet_nil ?_
              rintro wz ⟨u, rfl⟩
              have PZ := Lib.hid (HP.out.later (Y3.out.trans (u.below.mono Y3.out.size)))
              clear HP HS CE rg E1 RG R11 Y3 B3 EQ
              go_wp2_with fail
              exact ⟨⟨j + 1, by omega, by go_num, PZ.out⟩, by simp [intOf]; omega⟩
            · have t5 : decide ((j : Int) < (k : Int) + 1) = false := decide_eq_false (by omega)
              obtain ⟨G, hG⟩ : ∃ S, shaS [] = S := ⟨_, rfl⟩
              have GL : Hid (G.length = 32) := Lib.hid (by rw [← hG]; exact shaS_len _)
              have EQ := eq_same GL.out
              have CE : Hid (∀ u, Laid u → Calls Tryd.prog 17 #[.agg (stV (List.replicate 8 0) (List.replicate 64 0) 0).toArray] u fun e w' => e = .returned (.agg (vals G).toArray) ∧ Below u.heap.size u w') := Lib.hid (fun u h => by
                rw [← stateL_nil', ← stateV_def, ← hG]
                exact end_st allB_nil (by decide) u h)
              have CR : Hid (∀ u, Calls Tryd.prog 11 #[.slice none 0 0] u fun e w' => e = .returned (.agg (vals G).toArray) ∧ Below u.heap.size u w') := Lib.hid (fun u => by
                rw [← hG]
                exact rsum_st (by decide) u (Bs.nil u none))
              clear hG
              have BW := Lib.hid HP.out.all.bel
              clear HP
              have z0 := zero38
              have S0 := Lib.hid (Ro.new wr 38 (stV (List.replicate 8 0) (List.replicate 64 0) 0))
              have G0 := Lib.hid ((Below.refl wr.heap.size wr).alloc (Nat.le_refl _) (.cells (stV (List.replicate 8 0) (List.replicate 64 0) 0).toArray 38))
              go_wp2_with (refine wpList_load_ro rfl (.tmp 12) rfl rfl row38 S0.out (stV_len rfl rfl) ?_)
              have B1' := Lib.hid (BW.out.trans (G0.out.mono BW.out.size))
              refine (CE.out _ (HD.out.later HD.out.lt B1'.out)).mono ?_
              rintro e w2 ⟨rfl, hb⟩
              have B2' := Lib.hid (B1'.out.trans (hb.mono B1'.out.size))
              clear hb z0
              go_wp2_with fail
              refine (CR.out _).mono ?_
              rintro e w3 ⟨rfl, hb⟩
              have B3' := Lib.hid (B2'.out.trans (hb.mono B2'.out.size))
              clear hb
              go_wp2_with fail
              refine (works_any _ (HD.out.later HD.out.lt B3'.out)).mono ?_
              rintro e w4 ⟨rfl, hb⟩
              have B4' := Lib.hid (B3'.out.trans (hb.mono B3'.out.size))
              clear hb
              go_wp2_with fail
              go_ret
              exact ⟨rfl, B4'.out⟩
      · have t2 : decide ((k : Int) < (n : Int)) = false := decide_eq_false (by omega)
        go_wp2_with fail
        clear t1 t2
        go_loopw [10] (fun i wr => ∃ j : Nat, j ≤ k + 1 ∧ i = .int .i64 (j : Nat) ∧ PaA w f k k k N (.slice A3 N c3) (.slice (some ⟨g4, 0, none⟩) (k + 1) c4) (.slice (some ⟨g5, 0, none⟩) (k + 1) c5) wr) (fun i _ => k + 1 - (intOf i).toNat)
        case atStart => exact ⟨0, by omega, rfl, HP.out⟩
        case round =>
          clear HP
          obtain ⟨j, hj, rfl, P⟩ := hrel
          have HP := Lib.hid P
          clear P
          by_cases hjk : j < k + 1
          · have t5 : decide ((j : Int) < (k : Int) + 1) = true := decide_eq_true (by omega)
            obtain ⟨M, hM⟩ := pre_mono f k j (by omega)
            obtain ⟨l, hl⟩ : ∃ l, (pre f j).length = l := ⟨_, rfl⟩
            have hlN : l ≤ N := by have h := HP.out.all.len; rw [hM, List.length_append, hl] at h; omega
            have bh := HP.out.all.reads
            rw [hM] at bh
            have BH := Lib.hid (bh.head hl)
            have cI : wr.cell? ⟨g5, j, none⟩ = some (.int .i64 (l : Int)) := by
              have h := HP.out.ln.cellAt j (by omega)
              rw [h, lns_get f k j (by omega)]
              unfold lnV
              rw [hl]
            obtain ⟨G1, G2, SS, hq⟩ := sumsOf HD.out hl BH.out.byt (by omega)
            obtain ⟨S1, hS1⟩ : ∃ S, stateL (pre f j) = S := ⟨_, rfl⟩
            have SL1 : Hid (S1.length = 73) := Lib.hid (by rw [← hS1]; exact stateL_len _)
            have CE : Hid (∀ u, Below w.heap.size w u → Calls Tryd.prog 17 #[.agg S1.toArray] u fun e w' => e = .returned (.agg (vals G1).toArray) ∧ Below u.heap.size u w') := Lib.hid (fun u b => by
              rw [← hS1, ← stateV_def, hq]
              exact end_st BH.out.byt (by omega) u (HD.out.later HD.out.lt b))
            have rg : Hid (∀ (u : World), Below wr.heap.size wr u → u.rangeAt g4 (j * 73) S1) := Lib.hid (fun u b i v hv => by
              have hi : i < 73 := by have := (List.getElem?_eq_some_iff.1 hv).1; rw [SL1.out] at this; exact this
              have h := (HP.out.later b).st.cellAt (j * 73 + i) (by omega)
              rw [h, sts_get f k j i (by omega) hi, hS1]
              exact hv)
            have HS := Lib.hid SS
            have HQ := Lib.hid hS1
            have EQ := eq_same SS.l1
            clear bh hM hq hS1 SS
            go_wp2_with fail
            refine (HS.out.r1 _ _ _ BH.out).mono ?_
            rintro e w2 ⟨rfl, hb⟩
            have Y2 := Lib.hid hb
            clear hb BH
            go_wp2_with (refine wpList_store_ro rfl (.tmp 11) (.tmp 89) rfl rfl rfl row26 (Ro.new w2 26 (vals (List.replicate 32 0))) (by simp [vals]) (by rw [vals_length]; exact HS.out.l1) (vals_one _) ?_)
            intro w3 r0 g0
            have b0 := box_store g0
            have R11 := Lib.hid r0
            have Y3 := Lib.hid (Y2.out.trans (b0.mono Y2.out.size))
            clear r0 g0 b0 Y2
            have B3 := Lib.hid (HP.out.all.bel.trans (Y3.out.mono HP.out.all.bel.size))
            go_wp2_with fail
            have E1 : Hid (∀ u : After w3, Calls Tryd.prog 17 #[.agg S1.toArray] u.w fun e w' => e = .returned (.agg (vals G1).toArray) ∧ Below u.w.heap.size u.w w') := Lib.hid (fun u => CE.out u.w (B3.out.trans (u.below.mono B3.out.size)))
            have RG : Hid (∀ u : After w3, u.w.rangeAt g4 (j * 73) S1) := Lib.hid (fun u => rg.out u.w (Y3.out.trans (u.below.mono Y3.out.size)))
            refine wp_region_after (by kernel_rfl) (by kernel_rfl) ?_
            repeat (go_big_quiet_step (fail))
            go_big_quiet_want
            refine quiet_load_part (.tmp 92) rfl rfl row38 (fun w9 h9 => by obtain ⟨u, rfl⟩ := h9; exact RG.out u) SL1.out ?_
            simp only [Act.put, List.setIfInBounds_toArray, List.set_cons_succ, List.set_cons_zero]
            go_big_quiet_on
            go_big_quiet_step (exact after_call (E1.out _))
            go_big_quiet_want
            refine quiet_load_part (.tmp 11) rfl rfl row26 (fun w9 h9 => by obtain ⟨u, rfl⟩ := h9; exact rangeAt_later R11.out R11.out.whole u.below) (by rw [vals_length]; exact HS.out.l1) ?_
            simp only [Act.put, List.setIfInBounds_toArray, List.set_cons_succ, List.set_cons_zero]
            go_big_quiet_on
            repeat (go_big_quiet_step (fail))
            go_big_quiet_want
            refine quiet_load_part (.tmp 100) rfl rfl row38 (fun w9 h9 => by obtain ⟨u, rfl⟩ := h9; exact RG.out u) SL1.out ?_
            simp only [Act.put, List.setIfInBounds_toArray, List.set_cons_succ, List.set_cons_zero]
            go_big_quiet_on
            go_big_quiet_step (exact after_call (E1.out _))
            go_big_quiet_want
            refine quiet_load_part (.tmp 11) rfl rfl row26 (fun w9 h9 => by obtain ⟨u, rfl⟩ := h9; exact rangeAt_later R11.out R11.out.whole u.below) (by rw [vals_length]; exact HS.out.l1) ?_
            simp only [Act.put, List.setIfInBounds_toArray, List.set_cons_succ, List.set_cons_zero]
            go_big_quiet_on
            repeat (go_big_quiet_step (fail))
            refine wpQuiet_nil ?_
            rintro wz ⟨u, rfl⟩
            have PZ := Lib.hid (HP.out.later (Y3.out.trans (u.below.mono Y3.out.size)))
            clear HP HS CE rg E1 RG R11 Y3 B3 EQ
            go_wp2_with fail
            exact ⟨⟨j + 1, by omega, by go_num, PZ.out⟩, by simp [intOf]; omega⟩
          · have t5 : decide ((j : Int) < (k : Int) + 1) = false := decide_eq_false (by omega)
            obtain ⟨G, hG⟩ : ∃ S, shaS [] = S := ⟨_, rfl⟩
            have GL : Hid (G.length = 32) := Lib.hid (by rw [← hG]; exact shaS_len _)
            have EQ := eq_same GL.out
            have CE : Hid (∀ u, Laid u → Calls Tryd.prog 17 #[.agg (stV (List.replicate 8 0) (List.replicate 64 0) 0).toArray] u fun e w' => e = .returned (.agg (vals G).toArray) ∧ Below u.heap.size u w') := Lib.hid (fun u h => by
              rw [← stateL_nil', ← stateV_def, ← hG]
              exact end_st allB_nil (by decide) u h)
            have CR : Hid (∀ u, Calls Tryd.prog 11 #[.slice none 0 0] u fun e w' => e = .returned (.agg (vals G).toArray) ∧ Below u.heap.size u w') := Lib.hid (fun u => by
              rw [← hG]
              exact rsum_st (by decide) u (Bs.nil u none))
            clear hG
            have BW := Lib.hid HP.out.all.bel
            clear HP
            have z0 := zero38
            have S0 := Lib.hid (Ro.new wr 38 (stV (List.replicate 8 0) (List.replicate 64 0) 0))
            have G0 := Lib.hid ((Below.refl wr.heap.size wr).alloc (Nat.le_refl _) (.cells (stV (List.replicate 8 0) (List.replicate 64 0) 0).toArray 38))
            go_wp2_with (refine wpList_load_ro rfl (.tmp 12) rfl rfl row38 S0.out (stV_len rfl rfl) ?_)
            have B1' := Lib.hid (BW.out.trans (G0.out.mono BW.out.size))
            refine (CE.out _ (HD.out.later HD.out.lt B1'.out)).mono ?_
            rintro e w2 ⟨rfl, hb⟩
            have B2' := Lib.hid (B1'.out.trans (hb.mono B1'.out.size))
            clear hb z0
            go_wp2_with fail
            refine (CR.out _).mono ?_
            rintro e w3 ⟨rfl, hb⟩
            have B3' := Lib.hid (B2'.out.trans (hb.mono B2'.out.size))
            clear hb
            go_wp2_with fail
            refine (works_any _ (HD.out.later HD.out.lt B3'.out)).mono ?_
            rintro e w4 ⟨rfl, hb⟩
            have B4' := Lib.hid (B3'.out.trans (hb.mono B3'.out.size))
            clear hb
            go_wp2_with fail
            go_ret
            exact ⟨rfl, B4'.out⟩
end Go.Proofs.YtmieoeplbmfemaaDoor
