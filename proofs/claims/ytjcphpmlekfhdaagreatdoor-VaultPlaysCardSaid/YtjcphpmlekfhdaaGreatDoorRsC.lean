/- The reference's Sound: the records of a file, whatever its bytes. No condition but a bound on the length. -/
import Derived.Test.YtjcphpmlekfhdaaGreatDoorGr
import Derived.Test.YtjcphpmlekfhdaaGreatDoorGf
import Derived.Test.YtjcphpmlekfhdaaGreatDoorGn
namespace Go.Proofs.YtjcphpmlekfhdaaGreatDoor
open Go.RowKit
set_option maxRecDepth 100000

/-- What Sound tells. -/
def SndQ (w : World) (o : Option (Nat × List (List Nat) × Nat)) (e : Ending) (W : World) : Prop :=
  (match o with
  | none => e = .returned (.tuple #[.int .u64 0, .slice none 0 0, .int .i64 0])
  | some y => ∃ A c, e = .returned (.tuple #[.int .u64 (y.1 : Nat), .slice A y.2.1.length c, .int .i64 (y.2.2 : Nat)]) ∧ y.2.1.length ≤ c ∧ Rows W (fun b => w.heap.size ≤ b) 1 ByR A y.2.1.length y.2.1) ∧ Below w.heap.size w W
/-- Between two frames. -/
structure SndJ (w : World) (g : Nat) (L : List Nat) (v : Value) (l : List (List Nat)) (wr : World) : Prop where
  own : OwnRw 40 1 ByR w (fun b => w.heap.size ≤ b) v l.length l wr
  len : 44 + wideS l ≤ L.length
  rest : recsS g (L.drop 44) = l ++ wholeS g (L.drop (44 + wideS l)).length l.length (L.drop (44 + wideS l))
theorem SndJ.next {w wr wr' : World} {g : Nat} {L r : List Nat} {v v' : Value} {l : List (List Nat)} (J : SndJ w g L v l wr) (h : firstS g l.length (L.drop (44 + wideS l)) = some r) (O : OwnRw 40 1 ByR w (fun b => w.heap.size ≤ b) v' (l.length + 1) (l ++ [r]) wr') : SndJ w g L v' (l ++ [r]) wr' := by
  have hl : (l ++ [r]).length = l.length + 1 := by rw [List.length_append]; rfl
  have hw : wideS (l ++ [r]) = wideS l + (36 + r.length) := by
    unfold wideS
    rw [List.map_append, List.sum_append]
    simp
  have hf := (firstS_len h).1
  rw [List.length_drop] at hf
  refine ⟨by rw [hl]; exact O, by rw [hw]; have := J.len; omega, ?_⟩
  rw [J.rest, hl, hw, List.append_assoc]
  congr 1
  obtain ⟨t, ht⟩ : ∃ t, L.drop (44 + wideS l) = t := ⟨_, rfl⟩
  have e : L.drop (44 + (wideS l + (36 + r.length))) = t.drop (36 + r.length) := by rw [← ht, List.drop_drop]; congr 1; omega
  rw [e, ht]
  rw [ht] at h
  have hf2 := (firstS_len h).1
  cases hn : t.length with
  | zero => omega
  | succ f =>
    rw [wholeS, h]
    dsimp only
    rw [wholeS_fuel g f (t.drop (36 + r.length)).length (l.length + 1) (t.drop (36 + r.length)) (by rw [List.length_drop]; omega) (Nat.le_refl _)]
    rfl
theorem SndJ.stop {w wr : World} {g : Nat} {L : List Nat} {v : Value} {l : List (List Nat)} (J : SndJ w g L v l wr) (h : firstS g l.length (L.drop (44 + wideS l)) = none) : recsS g (L.drop 44) = l := by
  rw [J.rest]
  cases (L.drop (44 + wideS l)).length with
  | zero => rw [wholeS, List.append_nil]
  | succ f => rw [wholeS, h, List.append_nil]
theorem SndJ.all {w wr : World} {g : Nat} {L : List Nat} {v : Value} {l : List (List Nat)} (J : SndJ w g L v l wr) (h : L.length ≤ 44 + wideS l) : recsS g (L.drop 44) = l := by
  refine J.stop ?_
  unfold firstS
  rw [if_pos (by rw [List.length_drop]; omega)]
theorem SndJ.later {w wr w1 : World} {g : Nat} {L : List Nat} {v : Value} {l : List (List Nat)} (J : SndJ w g L v l wr) (b : Below wr.heap.size wr w1) : SndJ w g L v l w1 := ⟨J.own.later byM b, J.len, J.rest⟩
theorem firstS_byt {g k : Nat} {s r : List Nat} (hs : AllB s) (h : firstS g k s = some r) : AllB r := by
  unfold firstS at h
  split at h
  · cases h
  · split at h
    · cases h
    · split at h
      · injection h with h
        rw [← h]
        exact allB_take (allB_drop hs _) _
      · cases h
set_option maxHeartbeats 16000000 in
theorem rsound_any {f : Nat} {L : List Nat} (hf : f ≤ 1) (hl : L.length ≤ 1048576) (hb : AllB L) (w : World) :
    Calls Tryz.prog 53 #[.string (strB L), .int .i64 (f : Nat)] w (SndQ w (soundS f L)) := by
  obtain ⟨n, hn⟩ : ∃ n, L.length = n := ⟨_, rfl⟩
  have hsz : (strB L).size = n := by rw [strB_size]; exact hn
  by_cases h4 : n < 44
  · have hs : soundS f L = none := soundS_short (by omega)
    rw [hs]
    obtain ⟨s, hs⟩ : ∃ s, strB L = s := ⟨_, rfl⟩
    rw [hs] at hsz ⊢
    have t1 : decide ((n : Int) < 44) = true := decide_eq_true (by omega)
    clear hs
    go_enter Tryz.func53, Tryz.ntmps53
    go_wp2_with fail
    go_region
    all_goals go_wp2_with fail
    exact bodyPost_ret (results_tmp3 rfl _ _ _) rfl ⟨rfl, (Below.refl _ _).drew⟩
  have t1 : decide ((n : Int) < 44) = false := decide_eq_false (by omega)
  obtain ⟨s, hs⟩ : ∃ s, strB L = s := ⟨_, rfl⟩
  obtain ⟨s12, h12⟩ : ∃ s, strB (L.take 12) = s := ⟨_, rfl⟩
  obtain ⟨s32, h32⟩ : ∃ s, strB ((L.drop 12).take 32) = s := ⟨_, rfl⟩
  obtain ⟨s8, h8⟩ : ∃ s, strB (L.take 8) = s := ⟨_, rfl⟩
  obtain ⟨sn, hsn⟩ : ∃ s, strB ((L.drop 8).take 4) = s := ⟨_, rfl⟩
  obtain ⟨sc, hsc⟩ : ∃ s, strB (chkS (L.take 12)) = s := ⟨_, rfl⟩
  have x1 : s.extract 0 12 = s12 := by rw [← hs, ← h12, strB_cut, List.drop_zero]
  have x2 : s.extract 12 44 = s32 := by rw [← hs, ← h32, strB_cut, List.drop_take]
  have x3 : s.extract 0 8 = s8 := by rw [← hs, ← h8, strB_cut, List.drop_zero]
  have x4 : s.extract 8 12 = sn := by rw [← hs, ← hsn, strB_cut, List.drop_take]
  have hdec := str_dec (chkS_byt (L.take 12)) (allB_take (allB_drop hb 12) 32)
  have CK : Hid (∀ w, Calls Tryz.prog 87 #[.string s12] w fun e W => e = .returned (.string sc) ∧ Below w.heap.size w W) := Lib.hid fun w => by
    rw [← h12, ← hsc]; exact rcheck_any (by rw [List.length_take]; omega) (allB_take hb 12) w
  obtain ⟨g, hg⟩ : ∃ g, num (L.take 8) = g := ⟨_, rfl⟩
  obtain ⟨m, hm⟩ : ∃ m, num ((L.drop 8).take 4) = m := ⟨_, rfl⟩
  obtain ⟨gi, hgi⟩ : ∃ gi : Int, (g : Int) = gi := ⟨_, rfl⟩
  have CG : Hid (∀ w, Calls Tryz.prog 88 #[.string s8] w fun e W => e = .returned (.int .u64 gi) ∧ W = w) := Lib.hid fun w => by
    rw [← hgi, ← hg, ← h8]; exact rnumber_any (by rw [List.length_take]; omega) (allB_take hb 8) w
  have CM : Hid (∀ w, Calls Tryz.prog 88 #[.string sn] w fun e W => e = .returned (.int .u64 (m : Nat)) ∧ W = w) := Lib.hid fun w => by
    rw [← hm, ← hsn]; exact rnumber_any (by rw [List.length_take]; omega) (allB_take (allB_drop hb 8) 4) w
  have hg64 : g < 18446744073709551616 := by
    have := num_lt (allB_take hb 8)
    rw [List.length_take, hn, Nat.min_eq_left (by omega), hg] at this
    exact this
  rw [h32, hsc] at hdec
  have HE : Hid (chkS (L.take 12) = (L.drop 12).take 32 → sc = s32) := Lib.hid fun h => by rw [← hsc, ← h32, h]
  have HS := Lib.hid hs
  have HG := Lib.hid hgi
  have n12 : (12 : Int) ≤ (n : Int) := by omega
  have n44 : (44 : Int) ≤ (n : Int) := by omega
  have n8 : (8 : Int) ≤ (n : Int) := by omega
  have hgi0 : 0 ≤ gi := by omega
  have hgi1 : gi < 18446744073709551616 := by omega
  rw [hs] at hsz ⊢
  have hS : soundS f L = if chkS (L.take 12) ≠ (L.drop 12).take 32 then none else if g < 1 ∨ 4611686018427387904 < g ∨ g % 2 ≠ f then none else if (recsS g (L.drop 44)).length < m then none else some (g, recsS g (L.drop 44), 44 + wideS (recsS g (L.drop 44))) := by
    unfold soundS
    rw [if_neg (by omega), hg, hm]
  rw [hS]
  clear hs h12 h32 h8 hsn hsc hg hm hgi hS
  by_cases hck : ¬ chkS (L.take 12) = (L.drop 12).take 32
  · rw [if_pos hck]
    rw [decide_eq_false hck] at hdec
    clear hck
    go_enter Tryz.func53, Tryz.ntmps53
    go_wp2_with fail
    go_region_law (first | (go_simp; (with_reducible refine (CK.out _).mono ?_); rintro e w9 ⟨rfl, b9⟩; have B9 := Lib.hid b9; clear b9; go_simp))
    all_goals go_wp2_with fail
    all_goals exact bodyPost_ret (results_tmp3 rfl _ _ _) rfl ⟨rfl, (Below.refl _ _).drew.trans B9.out⟩
  have hck2 := Classical.not_not.1 hck
  rw [if_neg (fun h => h hck2)]
  obtain rfl := HE.out hck2
  clear hdec
  obtain ⟨o, ho⟩ : ∃ o, (if g < 1 ∨ 4611686018427387904 < g ∨ g % 2 ≠ f then none else if (recsS g (L.drop 44)).length < m then none else some (g, recsS g (L.drop 44), 44 + wideS (recsS g (L.drop 44)))) = o := ⟨_, rfl⟩
  rw [ho]
  have HO := Lib.hid ho
  clear hck hck2 HE ho
  go_enter Tryz.func53, Tryz.ntmps53
  go_wp2_with fail
  go_region_law (first | (go_simp; (with_reducible refine (CK.out _).mono ?_); rintro e w9 ⟨rfl, b9⟩; have B9 := Lib.hid b9; clear b9; go_simp))
  go_wp2_with fail
  have B1 := Lib.hid (show Below w.heap.size w w9 from (Below.refl _ _).drew.trans B9.out)
  clear B9
  refine (CG.out w9).mono ?_
  rintro e w1 ⟨rfl, hw⟩
  obtain rfl := hw
  by_cases hbad : g < 1 ∨ 4611686018427387904 < g ∨ g % 2 ≠ f
  · have ho : o = none := by rw [← HO.out, if_pos hbad]
    subst ho
    have HBD := Lib.hid hbad
    clear hbad HO
    by_cases h1 : gi < 1
    · have t2 : decide (gi < 1) = true := decide_eq_true h1
      go_wp2_with fail
      exact bodyPost_ret (results_tmp3 rfl _ _ _) rfl ⟨rfl, B1.out⟩
    have t2 : decide (gi < 1) = false := decide_eq_false h1
    by_cases h2 : 4611686018427387904 < gi
    · have t3 : decide (4611686018427387904 < gi) = true := decide_eq_true h2
      go_wp2_with fail
      exact bodyPost_ret (results_tmp3 rfl _ _ _) rfl ⟨rfl, B1.out⟩
    have t3 : decide (4611686018427387904 < gi) = false := decide_eq_false h2
    have t4 : (gi % 2 != (f : Int)) = true := by
      rw [bne_iff_ne]
      have := HG.out
      have := HBD.out
      omega
    clear h1 h2
    go_wp2_with fail
    exact bodyPost_ret (results_tmp3 rfl _ _ _) rfl ⟨rfl, B1.out⟩
  have HNB := Lib.hid hbad
  have t2 : decide (gi < 1) = false := decide_eq_false (by have := HG.out; omega)
  have t3 : decide (4611686018427387904 < gi) = false := decide_eq_false (by have := HG.out; omega)
  have t4 : (gi % 2 != (f : Int)) = false := by
    rw [bne_eq_false_iff_eq]
    have := HG.out
    omega
  clear hbad
  go_wp2_with fail
  go_loopw [8, 9] (fun v i wr => ∃ l : List (List Nat), i = .int .i64 ((44 + wideS l : Nat) : Int) ∧ SndJ w g L v l wr) (fun _ i _ => n - (intOf i).toNat)
  case atStart => exact ⟨[], rfl, ⟨OwnRw.none_ B1.out, by show 44 + 0 ≤ L.length; omega, rfl⟩⟩
  case round =>
    obtain ⟨l, rfl, J⟩ := hrel
    have HJ := Lib.hid J
    obtain ⟨z, hz⟩ : ∃ z, 44 + wideS l = z := ⟨_, rfl⟩
    have HZ := Lib.hid hz
    have hzn : z ≤ n := by have := J.len; omega
    have hz44 : 44 ≤ z := by omega
    rw [hz]
    by_cases hlt : z < n
    · have t5 : decide ((z : Int) < (n : Int)) = true := decide_eq_true (by omega)
      have hlb : l.length ≤ n := by have := wide_len l; omega
      obtain ⟨A, c, hv, hc⟩ := J.own.shape
      obtain ⟨sd, hsd⟩ : ∃ s, strB (L.drop z) = s := ⟨_, rfl⟩
      have x5 : s.extract z n = sd := by rw [← HS.out, ← hsd, strB_cut, ← hn, List.take_length]
      have CF := Lib.hid (rfirst_any (g := g) (k := l.length) (L := L.drop z) (by have := HG.out; omega) (by omega) (by rw [List.length_drop]; omega) (allB_drop hb z) wr)
      rw [hsd, HG.out] at CF
      have HB := Lib.hid J.own.bel
      subst hv
      clear J hz hsd
      go_wp2_with fail
      refine (CF.out).mono ?_
      rintro e w2 ⟨h, b2⟩
      have J2 := Lib.hid (HJ.out.later b2)
      clear b2 CF
      cases hfst : firstS g l.length (L.drop z) with
      | none =>
        rw [hfst] at h
        obtain ⟨q, rfl⟩ := h
        have hrec : recsS g (L.drop 44) = l := HJ.out.stop (by rw [HZ.out]; exact hfst)
        clear hfst
        have HREC := Lib.hid hrec
        have HB2 := Lib.hid J2.out.own.bel
        clear hrec HJ
        go_wp2_with fail
        refine (CM.out _).mono ?_
        rintro e w3 ⟨rfl, hw⟩
        obtain rfl := hw
        by_cases hml : l.length < m
        · have t7 : decide ((l.length : Int) < (m : Int)) = true := decide_eq_true (by omega)
          have ho : o = none := by rw [← HO.out, if_neg HNB.out, HREC.out, if_pos hml]
          subst ho
          go_wp2_with fail
          exact bodyPost_ret (results_tmp3 rfl _ _ _) rfl ⟨rfl, HB2.out⟩
        · have t7 : decide ((l.length : Int) < (m : Int)) = false := decide_eq_false (by omega)
          have ho : o = some (g, l, 44 + wideS l) := by rw [← HO.out, if_neg HNB.out, HREC.out, if_neg hml]
          subst ho
          go_wp2_with fail
          refine bodyPost_ret (results_tmp3 rfl _ _ _) rfl ⟨⟨A, c, by dsimp only; rw [HG.out, HZ.out]; rfl, hc, Rows.weak byM (J2.out.own.reads byM) fun b h _ => ?_⟩, HB2.out⟩
          rcases h with h | h
          · exact h
          · exact (J2.out.own.new b (by cases A with | none => cases h | some x => exact h)).1
      | some r =>
        rw [hfst] at h
        have h' : e = .returned (.tuple #[.string (strB r), .bool true]) := h
        subst h'
        have hrb := firstS_byt (allB_drop hb z) hfst
        have hrl := (firstS_len hfst).1
        rw [List.length_drop] at hrl
        obtain ⟨c4, w4, r4, k4, m4, z4, B4, b4⟩ := run_bytes hrb (by omega) w2
        have hsr : (strB r).size = r.length := strB_size r
        have HF := Lib.hid hfst
        obtain ⟨sr, hsr2⟩ : ∃ s, strB r = s := ⟨_, rfl⟩
        rw [hsr2] at r4 hsr ⊢
        obtain ⟨y, hy⟩ : ∃ y, r.length = y := ⟨_, rfl⟩
        have HY := Lib.hid hy
        rw [hy] at hsr hrl r4 k4
        have J4 := J2.out.later b4
        have b5 : Below w4.heap.size w4 (w4.alloc (.cells #[.slice (some ⟨w2.heap.size, 0, none⟩) y c4] 40)) := (Below.refl _ _).alloc (Nat.le_refl _) _
        have OL := Lib.hid ((J4.later b5).own)
        have RV : Hid (∀ (_ : 0 < 1), ∃ b o, (some ⟨w4.heap.size, 0, none⟩ : Option Addr) = some ⟨b, o, none⟩ ∧ (w4.alloc (.cells #[.slice (some ⟨w2.heap.size, 0, none⟩) y c4] 40)).rangeAt b o [.slice (some ⟨w2.heap.size, 0, none⟩) y c4]) := Lib.hid fun _ => ⟨_, _, rfl, range_one _ _ _⟩
        have EV : Hid (Each 1 (ByR (w4.alloc (.cells #[.slice (some ⟨w2.heap.size, 0, none⟩) y c4] 40)) fun b => w.heap.size ≤ b ∧ some b ≠ (Value.slice A l.length c).ownBlock ∧ b < (w4.alloc (.cells #[.slice (some ⟨w2.heap.size, 0, none⟩) y c4] 40)).heap.size) [.slice (some ⟨w2.heap.size, 0, none⟩) y c4] [r]) := Lib.hid (Each.one rfl ⟨_, c4, by rw [hy], ⟨by rw [hy]; exact k4, by omega⟩, m4, ⟨B4.later b5, fun _ a e => by
          injection e with e
          subst e
          have h1 := J2.out.own.bel.size
          refine ⟨h1, fun e => ?_, by rw [World.size_alloc]; show w2.heap.size < _; omega⟩
          have := (J2.out.own.new _ e.symm).2
          exact absurd this (Nat.lt_irrefl _)⟩⟩)
        clear B4 b4 b5 J4 hrb hfst hsr2 hy h HJ
        go_wp2_with (at_builtin; refine wpList_appRw (m := 1) (c := 1) (k := [r]) (cs := [.slice (some ⟨w2.heap.size, 0, none⟩) y c4]) (N := l.length + 1) elemB byM rfl _ _ rfl rfl OL.out rfl rfl RV.out EV.out ?e1 rfl ?e2 ?e3 ?_)
        case e1 => intro y hy; simp at hy; rw [hy]; rfl
        case e2 => omega
        case e3 => omega
        intro A' c' w' j1 j2 j3 j4
        have J7 := Lib.hid (J2.out.next (by rw [HZ.out]; exact HF.out) j2)
        clear j1 j2 j3 j4 OL RV EV
        go_wp2_with fail
        go_roundw
        case rel => exact ⟨l ++ [r], by
          have e : wideS (l ++ [r]) = wideS l + (36 + y) := by
            unfold wideS
            rw [List.map_append, List.sum_append, ← HY.out]
            simp
          rw [e]
          have := HZ.out
          go_num, by have e : (l ++ [r]).length = l.length + 1 := by { rw [List.length_append]; rfl }
                     exact J7.out⟩
        case measure => simp [intOf]; omega
    · have t5 : decide ((z : Int) < (n : Int)) = false := decide_eq_false (by omega)
      have hrec : recsS g (L.drop 44) = l := J.all (by omega)
      clear J hz
      have HREC := Lib.hid hrec
      have hlb : l.length ≤ n := by have := HJ.out.len; have := wide_len l; omega
      obtain ⟨A, c, rfl, hc⟩ := HJ.out.own.shape
      have HB := Lib.hid HJ.out.own.bel
      clear hrec
      go_wp2_with fail
      refine (CM.out _).mono ?_
      rintro e w3 ⟨rfl, hw⟩
      obtain rfl := hw
      by_cases hml : l.length < m
      · have t7 : decide ((l.length : Int) < (m : Int)) = true := decide_eq_true (by omega)
        have ho : o = none := by rw [← HO.out, if_neg HNB.out, HREC.out, if_pos hml]
        subst ho
        go_wp2_with fail
        exact bodyPost_ret (results_tmp3 rfl _ _ _) rfl ⟨rfl, HB.out⟩
      · have t7 : decide ((l.length : Int) < (m : Int)) = false := decide_eq_false (by omega)
        have ho : o = some (g, l, 44 + wideS l) := by rw [← HO.out, if_neg HNB.out, HREC.out, if_neg hml]
        subst ho
        go_wp2_with fail
        refine bodyPost_ret (results_tmp3 rfl _ _ _) rfl ⟨⟨A, c, by dsimp only; rw [HG.out, HZ.out]; rfl, hc, Rows.weak byM (HJ.out.own.reads byM) fun b h _ => ?_⟩, HB.out⟩
        rcases h with h | h
        · exact h
        · exact (HJ.out.own.new b (by cases A with | none => cases h | some x => exact h)).1
end Go.Proofs.YtjcphpmlekfhdaaGreatDoor
