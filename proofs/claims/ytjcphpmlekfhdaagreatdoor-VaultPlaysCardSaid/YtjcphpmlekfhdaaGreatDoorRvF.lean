/- Long records, heads and frames as the reference says them. No condition but bounds. -/
import Derived.Test.YtjcphpmlekfhdaaGreatDoorRsC
namespace Go.Proofs.YtjcphpmlekfhdaaGreatDoor
open Go.RowKit
set_option maxRecDepth 100000

set_option maxHeartbeats 4000000 in
theorem rlong_any {A : Option Addr} {n c : Nat} {l : List (List Nat)} (w : World) (hn : n ≤ 140737488351232) (hR : Rows w anyP 1 ByR A n l) :
    Calls Tryz.prog 65 #[.slice A n c] w fun e W => e = .returned (.bool (longS l)) ∧ W = w := by
  have hln := hR.len
  have HR := Lib.hid hR
  obtain ⟨q, hq⟩ : ∃ q, longS l = q := ⟨_, rfl⟩
  have HQ := Lib.hid hq
  rw [hq]
  clear hR hq
  go_enter Tryz.func65, Tryz.ntmps65
  go_wp2_with fail
  go_loopw [3] (fun i wr => ∃ j : Nat, j ≤ n ∧ i = .int .i64 (j : Nat) ∧ longS (l.take j) = false ∧ wr = w) (fun i _ => n - (intOf i).toNat)
  case atStart => exact ⟨0, Nat.zero_le _, rfl, by rw [List.take_zero]; rfl, rfl⟩
  case round =>
    obtain ⟨j, hj, rfl, hlj, hwr⟩ := hrel
    obtain rfl := hwr.symm
    have HLJ := Lib.hid hlj
    clear hlj
    by_cases hjn : j < n
    · have t1 : decide ((j : Int) < (n : Int)) = true := decide_eq_true (by omega)
      have hjl : j < l.length := by omega
      obtain ⟨b, o, rfl⟩ := rows_some HR.out (by omega)
      obtain ⟨_, B1, cb, hc, _, hlim, _, _⟩ := by_at HR.out hjl
      have HAT := Lib.hid (longS_take hjl HLJ.out)
      have HLA : Hid (32768 < l[j].length → longS l = true) := Lib.hid fun h => longS_at hjl h
      obtain ⟨y, hy⟩ : ∃ y, l[j].length = y := ⟨_, rfl⟩
      rw [hy] at hc hlim HAT HLA
      clear hy
      by_cases h3 : 32768 < y
      · have t2 : decide ((32768 : Int) < (y : Int)) = true := decide_eq_true (by omega)
        have e : q = true := by rw [← HQ.out]; exact HLA.out h3
        subst e
        clear h3
        go_wp2_with fail
        go_ret
        exact ⟨rfl, rfl⟩
      · have t2 : decide ((32768 : Int) < (y : Int)) = false := decide_eq_false (by omega)
        have HF : Hid (longS (l.take (j + 1)) = false) := Lib.hid (by rw [HAT.out]; exact decide_eq_false h3)
        clear h3
        go_wp2_with fail
        go_roundw
        case rel => exact ⟨j + 1, by omega, by go_num, HF.out, trivial⟩
        case measure => simp [intOf]; omega
    · have t1 : decide ((j : Int) < (n : Int)) = false := decide_eq_false (by omega)
      have e : q = false := by
        have h := HLJ.out
        rw [List.take_of_length_le (by omega)] at h
        rw [← HQ.out, h]
      subst e
      go_wp2_with fail
      go_ret
      exact ⟨rfl, rfl⟩
set_option maxHeartbeats 4000000 in
theorem rfront_any {g n : Nat} (hg : g < 18446744073709551616) (hn : n < 9223372036854775807) (w : World) :
    Calls Tryz.prog 67 #[.int .u64 (g : Nat), .int .i64 (n : Nat)] w (GivesS w (frontS g n)) := by
  obtain ⟨s8, h8⟩ : ∃ s, strB (lw 8 g) = s := ⟨_, rfl⟩
  obtain ⟨s4, h4⟩ : ∃ s, strB (lw 4 n) = s := ⟨_, rfl⟩
  obtain ⟨sb, hsb⟩ : ∃ s, strB (lw 8 g ++ lw 4 n) = s := ⟨_, rfl⟩
  obtain ⟨sc, hsc⟩ : ∃ s, strB (chkS (lw 8 g ++ lw 4 n)) = s := ⟨_, rfl⟩
  have C1 : Hid (∀ w, Calls Tryz.prog 93 #[.int .u64 (g : Nat), .int .i64 8] w fun e W => e = .returned (.string s8) ∧ Below w.heap.size w W) := Lib.hid fun w => by rw [← h8]; exact rlow_any g hg 8 (by decide) w
  have C2 : Hid (∀ w, Calls Tryz.prog 93 #[.int .u64 (n : Nat), .int .i64 4] w fun e W => e = .returned (.string s4) ∧ Below w.heap.size w W) := Lib.hid fun w => by rw [← h4]; exact rlow_any n (by omega) 4 (by decide) w
  have C3 : Hid (∀ w, Calls Tryz.prog 87 #[.string sb] w fun e W => e = .returned (.string sc) ∧ Below w.heap.size w W) := Lib.hid fun w => by rw [← hsb, ← hsc]; exact rcheck_any (by rw [List.length_append, lw_len, lw_len]; omega) (allB_app (lw_byt _ _) (lw_byt _ _)) w
  have z8 : s8.size = 8 := by rw [← h8, strB_size, lw_len]
  have z4 : s4.size = 4 := by rw [← h4, strB_size, lw_len]
  have zb : sb.size = 12 := by rw [← hsb, strB_size, List.length_append, lw_len, lw_len]
  have zc : sc.size = 32 := by rw [← hsc, strB_size, chkS_len]
  have E1 : s8 ++ s4 = sb := (by rw [← h8, ← h4, ← hsb, strB_app])
  have E4 : Hid (strB (frontS g n) = sb ++ sc) := Lib.hid (by rw [← hsb, ← hsc, strB_app]; rfl)
  have W1 : IntKind.u64.wrap ((n : Nat) : Int) = ((n : Nat) : Int) := IntWalk.u64_in _ (by omega)
  unfold GivesS
  rw [E4.out]
  clear h8 h4 hsb hsc
  go_enter Tryz.func67, Tryz.ntmps67
  go_wp2_with fail
  refine (C1.out w).mono ?_
  rintro e w1 ⟨rfl, b1⟩
  have B1 := Lib.hid b1
  clear b1
  go_wp2_with fail
  refine (C2.out w1).mono ?_
  rintro e w2 ⟨rfl, b2⟩
  have B2 := Lib.hid (B1.out.trans (b2.mono B1.out.size))
  clear b2 B1
  go_wp2_with fail
  refine (C3.out w2).mono ?_
  rintro e w3 ⟨rfl, b3⟩
  have B3 := Lib.hid (B2.out.trans (b3.mono B2.out.size))
  clear b3 B2
  go_wp2_with fail
  go_ret
  exact ⟨rfl, B3.out⟩
theorem framesS_at {g k : Nat} {l : List (List Nat)} {j : Nat} (h : j < l.length) : framesS g k (l.take (j + 1)) = framesS g k (l.take j) ++ frameS g (k + j) l[j] := by
  have e : l.take (j + 1) = l.take j ++ [l[j]] := by rw [List.take_add_one, List.getElem?_eq_getElem h]; rfl
  rw [e, framesS_app, List.length_take, Nat.min_eq_left (by omega)]
  congr 1
  rw [framesS, framesS, List.append_nil]
set_option maxHeartbeats 8000000 in
theorem rframes_any {A : Option Addr} {n c g k : Nat} {l : List (List Nat)} (w : World) (hg : g < 18446744073709551616) (hk : k ≤ 4611686018427387904) (hw : wideS l ≤ 1099511627) (hR : Rows w anyP 1 ByR A n l) :
    Calls Tryz.prog 68 #[.int .u64 (g : Nat), .int .i64 (k : Nat), .slice A n c] w (GivesS w (framesS g k l)) := by
  have hln := hR.len
  have hnw := wide_len l
  have HR := Lib.hid hR
  have HWD := Lib.hid hw
  clear hR
  go_enter Tryz.func68, Tryz.ntmps68
  go_wp2_with fail
  go_loopw [7, 8] (fun v i wr => ∃ j : Nat, j ≤ n ∧ i = .int .i64 (j : Nat) ∧ v = .string (strB (framesS g k (l.take j))) ∧ Below w.heap.size w wr) (fun _ i _ => n - (intOf i).toNat)
  case atStart => exact ⟨0, Nat.zero_le _, rfl, rfl, Below.refl _ _⟩
  case round =>
    obtain ⟨j, hj, rfl, rfl, hb⟩ := hrel
    have HB := Lib.hid hb
    clear hb
    have hsz : (strB (framesS g k (l.take j))).size = wideS (l.take j) := by rw [strB_size, framesS_len]
    have hle := wide_take_le l j
    obtain ⟨z, hz⟩ : ∃ z, wideS (l.take j) = z := ⟨_, rfl⟩
    rw [hz] at hsz hle
    by_cases hjn : j < n
    · have t1 : decide ((j : Int) < (n : Int)) = true := decide_eq_true (by omega)
      have hjl : j < l.length := by omega
      have RJ := Rows.later byM HR.out HB.out
      obtain ⟨b, o, rfl⟩ := rows_some HR.out (by omega)
      obtain ⟨_, B1, cb, hc, _, hlim, _, hbs⟩ := by_at RJ hjl
      have hfa := framesS_at (g := g) (k := k) hjl
      have hwt := wide_take hjl
      have hle2 := wide_take_le l (j + 1)
      have hfl := frameS_len g (k + j) l[j]
      obtain ⟨r, hr⟩ : ∃ r, l[j] = r := ⟨_, rfl⟩
      rw [hr] at hc hlim hbs hfa hwt hfl
      have s1 := run_str (c := cb) hbs.bs
      have CF := Lib.hid (rframe_any (g := g) (k := k + j) (r := r) hg (by omega) (by have := HWD.out; omega) hbs.bs.byt wr)
      obtain ⟨y, hy⟩ : ∃ y, r.length = y := ⟨_, rfl⟩
      obtain ⟨sr, hsr⟩ : ∃ s, strB r = s := ⟨_, rfl⟩
      obtain ⟨sa, hsa⟩ : ∃ s, strB (framesS g k (l.take j)) = s := ⟨_, rfl⟩
      obtain ⟨sf, hsf⟩ : ∃ s, strB (frameS g (k + j) r) = s := ⟨_, rfl⟩
      have HE : Hid (strB (framesS g k (l.take (j + 1))) = sa ++ sf) := Lib.hid (by rw [hfa, ← strB_app, hsa, hsf])
      have zf : sf.size = 36 + y := by rw [← hsf, strB_size, hfl, hy]
      unfold GivesS at CF
      rw [hsr, hsf] at CF
      rw [hsr, hy] at s1
      rw [hy] at hc hlim
      rw [hsa] at hsz ⊢
      have W1 : IntKind.i64.wrap ((k : Int) + (j : Int)) = ((k + j : Nat) : Int) := by rw [IntWalk.i64_in _ (by omega)]; omega
      have q1 : (9223372036854775807 < z + (36 + y)) = False := eq_false (by have := HWD.out; omega)
      clear hbs RJ hfa hwt hfl hr hy hsr hsa hsf hz
      go_wp2_with fail
      refine (CF.out).mono ?_
      rintro e w2 ⟨rfl, b2⟩
      have HB2 := Lib.hid (HB.out.trans (b2.mono HB.out.size))
      clear b2 CF
      go_wp2_with fail
      go_roundw
      case rel => exact ⟨j + 1, by omega, by go_num, by rw [HE.out], HB2.out⟩
      case measure => simp [intOf]; omega
    · have t1 : decide ((j : Int) < (n : Int)) = false := decide_eq_false (by omega)
      have e : l.take j = l := List.take_of_length_le (by omega)
      rw [e]
      clear e hsz hz
      go_wp2_with fail
      go_ret
      exact ⟨rfl, HB.out⟩
end Go.Proofs.YtjcphpmlekfhdaaGreatDoor
