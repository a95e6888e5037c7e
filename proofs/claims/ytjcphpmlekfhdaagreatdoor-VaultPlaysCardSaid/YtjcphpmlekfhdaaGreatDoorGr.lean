/- The reference's numbers and checks, as strings. No condition but bounds. -/
import Derived.Test.YtjcphpmlekfhdaaGreatDoorGc
import Derived.Test.YtjcphpmlekfhdaaGreatDoorGl
import Derived.Test.YtjcphpmlekfhdaaGreatDoorGq
import Derived.Test.YtjcphpmlekfhdaaGreatDoorGa
import Derived.Test.YtjcphpmlekfhdaaGreatDoorGf
import Derived.RegionTactic
import Derived.LoopTactic
import Derived.IntWalk
import Derived.Test.YtjcphpmlekfhdaaGreatDoorGk
import Derived.Deep.RegionWith

namespace Go.Proofs.YtjcphpmlekfhdaaGreatDoor
open Go.RowKit
set_option maxRecDepth 100000

/-- A string is given. -/
def GivesS (w : World) (L : List Nat) (e : Ending) (W : World) : Prop := e = .returned (.string (strB L)) ∧ Below w.heap.size w W
theorem lw_snoc (x : Nat) : ∀ k, lw (k + 1) x = lw k x ++ [x / 256 ^ k % 256] := by
  intro k
  induction k generalizing x with
  | zero => simp [lw]
  | succ k ih =>
    rw [lw, ih (x / 256), lw, List.cons_append, Nat.div_div_eq_div_mul, Nat.pow_succ, Nat.mul_comm 256]
set_option maxHeartbeats 4000000 in
theorem rlow_any (x : Nat) (hx : x < 18446744073709551616) (size : Nat) (hs : size ≤ 8) (w : World) :
    Calls Tryz.prog 93 #[.int .u64 (x : Nat), .int .i64 (size : Nat)] w (GivesS w (lw size x)) := by
  have HX := Lib.hid hx
  go_enter Tryz.func93, Tryz.ntmps93
  go_wp2_with fail
  go_loopw [5, 6] (fun v i wr => ∃ (k : Nat) (B : Option Addr) (N d : Nat), k ≤ size ∧ i = .int .i64 (k : Nat) ∧ v = .slice B N d ∧ N ≤ d ∧ Own w (.slice B N d) N (lw k x) wr) (fun _ i _ => size - (intOf i).toNat)
  case atStart => exact ⟨0, none, 0, 0, by omega, rfl, rfl, Nat.le_refl _, ⟨World.ownsRow_nil _ _ _ _, allB_nil, Below.refl _ _⟩⟩
  case round =>
    obtain ⟨k, B, N, d, hk, rfl, rfl, hd, O⟩ := hrel
    have HO := Lib.hid O
    have LN := O.len
    rw [lw_len] at LN
    subst LN
    clear O
    by_cases hlt : k < size
    · have t1 : decide ((k : Int) < (size : Int)) = true := decide_eq_true (by omega)
      have m1 : IntKind.i64.wrap (8 * (k : Int)) = ((8 * k : Nat) : Int) := by rw [IntWalk.i64_in _ (by omega)]; omega
      obtain ⟨b, hb1, hb2, hb3⟩ : ∃ b : Nat, (b : Int) = (x : Int) / 2 ^ (8 * k) % 256 ∧ b < 256 ∧ b = x / 256 ^ k % 256 := ⟨x / 256 ^ k % 256, by
        have e : (256 : Nat) ^ k = 2 ^ (8 * k) := by rw [Nat.pow_mul]
        rw [e, Int.natCast_emod, Int.natCast_ediv, Int.natCast_pow]; rfl, Nat.mod_lt _ (by decide), rfl⟩
      have HB3 := Lib.hid hb3
      have hb4 : (x : Int) / 2 ^ (8 * k) % 256 = (b : Int) := hb1.symm
      have W1 : IntKind.u8.wrap ((x : Int) / 2 ^ (8 * k)) = (b : Int) := by rw [IntKind.wrap_u8, hb4]
      have W2 : IntKind.u64.wrap ((8 * k : Nat) : Int) = ((8 * k : Nat) : Int) := IntWalk.u64_in _ (by omega)
      have bl := (Below.refl wr.heap.size wr).alloc (Nat.le_refl _) (.cells #[.int .u8 (b : Int)] 5)
      have O1 := Lib.hid (HO.out.later bl)
      have BL := Lib.hid (Bs.lit1 wr hb2)
      clear hb1 hb3 HO bl
      go_wp2_with (at_builtin; refine wpList_appB rfl (.tmp 12) (.tmp 19) rfl rfl O1.out rfl BL.out (by omega) ?_)
      intro A2 N2 c2 w2 hc2 O2 G2
      have O3 := Lib.hid O2
      clear O2 G2 O1 BL
      go_wp2_with fail
      exact ⟨⟨k + 1, A2, N2, c2, by omega, by go_num, rfl, hc2, by rw [lw_snoc, ← HB3.out]; exact O3.out⟩, by simp [intOf]; omega⟩
    · have t1 : decide ((k : Int) < (size : Int)) = false := decide_eq_false (by omega)
      obtain rfl : k = size := by omega
      have s1 := run_str (c := d) HO.out.reads
      have HB := Lib.hid HO.out.bel
      go_wp2_with fail
      go_ret
      exact ⟨rfl, HB.out⟩
set_option maxHeartbeats 4000000 in
theorem rcheck_any {L : List Nat} (hl : L.length ≤ 274877906944) (hb : AllB L) (w : World) :
    Calls Tryz.prog 87 #[.string (strB L)] w (GivesS w (chkS L)) := by
  obtain ⟨c, w1, r1, _, _, _, B1, b1⟩ := run_bytes hb (by omega) w
  have HT := Lib.hid (refTwice_any (c := c) hl w1 B1)
  have HB := Lib.hid b1
  obtain ⟨s, hs⟩ : ∃ s, strB L = s := ⟨_, rfl⟩
  obtain ⟨m, hm⟩ : ∃ m, L.length = m := ⟨_, rfl⟩
  obtain ⟨H, hH⟩ : ∃ H, shaS (shaS L) = H := ⟨_, rfl⟩
  have H32 : Hid (H.length = 32) := Lib.hid (by rw [← hH]; exact shaS_len _)
  have HY : Hid (AllB H) := Lib.hid (by rw [← hH]; exact shaS_byt _)
  have HH := Lib.hid (show chkS L = H from hH)
  rw [hs, hm] at r1
  rw [hm, hH] at HT
  rw [hs]
  clear hs hm hH B1 b1
  go_enter Tryz.func87, Tryz.ntmps87
  go_wp2_with fail
  refine (HT.out).mono ?_
  rintro e w2 ⟨rfl, b2⟩
  have N2 := Ro.new w2 145 (vals (List.replicate 32 0))
  have SM := Lib.hid ((Below.refl w2.heap.size w2).alloc (Nat.le_refl _) (.cells (vals (List.replicate 32 0)).toArray 145))
  have B2 := Lib.hid (HB.out.trans (b2.mono HB.out.size))
  clear b2 r1 HT HB
  go_wp2_with (refine wpList_store_ro rfl (.tmp 3) (.tmp 6) rfl rfl rfl row26 N2 (by rw [vals_length]; rfl) (by rw [vals_length]; exact H32.out) (vals_one _) ?_)
  intro w3 R3 g3
  have s3 := run_str (c := 32) (by have := R3.bs HY.out; rwa [H32.out] at this)
  have B3 := Lib.hid ((B2.out.trans (SM.out.mono B2.out.size)).grown g3 (by have := B2.out.size; simp; omega) (fun q e => by injection e; have := B2.out.size; omega))
  clear R3 g3 SM B2 N2
  go_wp2_with fail
  go_ret
  exact ⟨by rw [HH.out]; rfl, B3.out⟩
theorem index_str {L : List Nat} (h : AllB L) (j : Nat) (hj : j < L.length) (i : Int) (e : i = (j : Int)) (W : World) : (Instr.index 9 (.string (strB L)) (.int .i64 i)).run Tryz.prog W = .ok (.int .u8 (nth L j : Nat)) W := by
  subst e
  have hj' : j < (strB L).size := by rw [strB_size]; exact hj
  rw [run_index_string W 9 (strB L) .i64 (j : Int) Tryz.underlying9, dif_pos ⟨by omega, by omega⟩]
  have : nth L j = ((strB L)[(j : Int).toNat]'(by rw [Int.toNat_natCast]; exact hj')).toNat := by
    have h2 : j < (strB L).data.toList.length := by simpa using hj'
    have h3 : (strL (strB L))[j]? = some ((strB L).data.toList[j]).toNat := by
      unfold strL
      rw [List.getElem?_map, List.getElem?_eq_getElem h2]; rfl
    rw [strL_strB h] at h3
    unfold nth
    rw [List.getD_eq_getElem?_getD, h3]
    rfl
  rw [this]
theorem num_drop {L : List Nat} {k : Nat} (h : k < L.length) : num (L.drop k) = nth L k + 256 * num (L.drop (k + 1)) := by
  rw [List.drop_eq_getElem_cons h, num]
  simp [nth, List.getD, h]
set_option maxHeartbeats 4000000 in
theorem rnumber_any {L : List Nat} (hl : L.length ≤ 8) (hb : AllB L) (w : World) :
    Calls Tryz.prog 88 #[.string (strB L)] w fun e W => e = .returned (.int .u64 (num L : Nat)) ∧ W = w := by
  obtain ⟨n, hn⟩ : ∃ n, L.length = n := ⟨_, rfl⟩
  have hsz : (strB L).size = n := by rw [strB_size]; exact hn
  have IX : Hid (∀ (j : Nat) (i : Int), j < n → i = (j : Int) → ∀ W, (Instr.index 9 (.string (strB L)) (.int .i64 i)).run Tryz.prog W = .ok (.int .u8 (nth L j : Nat)) W) := Lib.hid fun j i h e W => index_str hb j (by omega) i e W
  have HN := Lib.hid hn
  have hn8 : n ≤ 8 := by omega
  have HS := Lib.hid hsz
  obtain ⟨s, hs⟩ : ∃ s, strB L = s := ⟨_, rfl⟩
  rw [hs] at IX hsz ⊢
  clear hs hl hn
  go_enter Tryz.func88, Tryz.ntmps88
  go_wp2_with fail
  go_loopw [3, 4] (fun x i wr => ∃ k : Nat, k ≤ n ∧ i = .int .i64 ((n : Int) - 1 - (k : Int)) ∧ x = .int .u64 (num (L.drop (n - k)) : Nat) ∧ wr = w) (fun _ i _ => (intOf i + 1).toNat)
  case atStart => exact ⟨0, Nat.zero_le _, by go_num, by rw [Nat.sub_zero, List.drop_of_length_le (by have := HN.out; omega)]; rfl, rfl⟩
  case round =>
    obtain ⟨k, hk, rfl, rfl, hwr⟩ := hrel
    obtain rfl := hwr.symm
    by_cases hkn : k < n
    · have t1 : decide (0 ≤ (n : Int) - 1 - (k : Int)) = true := decide_eq_true (by omega)
      have i1 := IX.out (n - 1 - k) ((n : Int) - 1 - (k : Int)) (by omega) (by omega)
      have hlt := num_lt (L := L.drop (n - k)) fun y hy => hb y (List.mem_of_mem_drop hy)
      have hs2 := num_drop (L := L) (k := n - 1 - k) (by have := HN.out; omega)
      rw [show n - 1 - k + 1 = n - k by omega] at hs2
      have hb2 := nth_lt hb (n - 1 - k)
      obtain ⟨q, hq⟩ : ∃ q, num (L.drop (n - k)) = q := ⟨_, rfl⟩
      obtain ⟨y, hy⟩ : ∃ y, nth L (n - 1 - k) = y := ⟨_, rfl⟩
      rw [hq] at hlt hs2 ⊢
      rw [hy] at i1 hs2 hb2
      have hq7 : q < 72057594037927936 := Nat.lt_of_lt_of_le hlt (Nat.le_trans (Nat.pow_le_pow_right (by decide) (by rw [List.length_drop]; have := HN.out; omega : (L.drop (n - k)).length ≤ 7)) (by decide))
      have ho : bits BinOp.or IntKind.u64 ((q : Int) * 256) (y : Int) = ((256 * q + y : Nat) : Int) := by
        have e1 : ((q : Int) * 256) = ((256 * q : Nat) : Int) := by omega
        rw [e1, bits_or_u64_nat (256 * q) y (by omega) (by omega)]
        have := Nat.two_pow_add_eq_or_of_lt (show y < 2 ^ 8 from hb2) q
        rw [show (2 : Nat) ^ 8 = 256 from rfl] at this
        rw [← this]
      have HQ : Hid (num (L.drop (n - (k + 1))) = 256 * q + y) := Lib.hid (by rw [show n - (k + 1) = n - 1 - k by omega, hs2]; omega)
      clear hlt hs2 hq hy
      go_wp2_with fail
      go_roundw
      case rel => exact ⟨k + 1, by omega, by go_num, by rw [HQ.out]; go_num, trivial⟩
      case measure => simp [intOf]; omega
    · have t1 : decide (0 ≤ (n : Int) - 1 - (k : Int)) = false := decide_eq_false (by omega)
      obtain rfl : k = n := by omega
      rw [Nat.sub_self, List.drop_zero]
      go_wp2_with fail
      go_ret
      exact ⟨rfl, rfl⟩
end Go.Proofs.YtjcphpmlekfhdaaGreatDoor

/- The reference's frames, and the record of the frame at the front. No condition but bounds. -/
namespace Go.Proofs.YtjcphpmlekfhdaaGreatDoor
open Go.RowKit
set_option maxRecDepth 100000

theorem strB_app (L M : List Nat) : strB L ++ strB M = strB (L ++ M) := by
  unfold strB
  apply ByteArray.ext
  simp [ByteArray.data_append]
theorem strB_cut (L : List Nat) (i j : Nat) : (strB L).extract i j = strB ((L.take j).drop i) := by
  unfold strB
  apply ByteArray.ext
  simp [List.map_take, List.map_drop, List.drop_take]
theorem allB_app {L M : List Nat} (h : AllB L) (k : AllB M) : AllB (L ++ M) := fun x hx => by
  rcases List.mem_append.1 hx with q | q
  · exact h x q
  · exact k x q
set_option maxHeartbeats 4000000 in
theorem rframe_any {g k : Nat} {r : List Nat} (hg : g < 18446744073709551616) (hk : k < 9223372036854775807) (hr : r.length ≤ 1099511627) (hb : AllB r) (w : World) :
    Calls Tryz.prog 94 #[.int .u64 (g : Nat), .int .i64 (k : Nat), .string (strB r)] w (GivesS w (frameS g k r)) := by
  obtain ⟨m, hm⟩ : ∃ m, r.length = m := ⟨_, rfl⟩
  have hbl : (bodyS r).length = 4 + m := by unfold bodyS; rw [List.length_append, lw_len, hm]
  have hbb : AllB (bodyS r) := allB_app (lw_byt _ _) hb
  obtain ⟨s, hs⟩ : ∃ s, strB r = s := ⟨_, rfl⟩
  obtain ⟨s4, h4⟩ : ∃ s, strB (lw 4 m) = s := ⟨_, rfl⟩
  obtain ⟨s8, h8⟩ : ∃ s, strB (lw 8 g) = s := ⟨_, rfl⟩
  obtain ⟨sk, hk8⟩ : ∃ s, strB (lw 8 k) = s := ⟨_, rfl⟩
  obtain ⟨s16, h16⟩ : ∃ s, strB (lw 8 g ++ lw 8 k) = s := ⟨_, rfl⟩
  obtain ⟨sb, hsb⟩ : ∃ s, strB (bodyS r) = s := ⟨_, rfl⟩
  obtain ⟨sa, hsa⟩ : ∃ s, strB ((lw 8 g ++ lw 8 k) ++ bodyS r) = s := ⟨_, rfl⟩
  obtain ⟨sc, hsc⟩ : ∃ s, strB (chkS ((lw 8 g ++ lw 8 k) ++ bodyS r)) = s := ⟨_, rfl⟩
  have C1 : Hid (∀ w, Calls Tryz.prog 93 #[.int .u64 (m : Nat), .int .i64 4] w fun e W => e = .returned (.string s4) ∧ Below w.heap.size w W) := Lib.hid fun w => by rw [← h4]; exact rlow_any m (by omega) 4 (by decide) w
  have C2 : Hid (∀ w, Calls Tryz.prog 93 #[.int .u64 (g : Nat), .int .i64 8] w fun e W => e = .returned (.string s8) ∧ Below w.heap.size w W) := Lib.hid fun w => by rw [← h8]; exact rlow_any g hg 8 (by decide) w
  have C3 : Hid (∀ w, Calls Tryz.prog 93 #[.int .u64 (k : Nat), .int .i64 8] w fun e W => e = .returned (.string sk) ∧ Below w.heap.size w W) := Lib.hid fun w => by rw [← hk8]; exact rlow_any k (by omega) 8 (by decide) w
  have C4 : Hid (∀ w, Calls Tryz.prog 87 #[.string sa] w fun e W => e = .returned (.string sc) ∧ Below w.heap.size w W) := Lib.hid fun w => by rw [← hsa, ← hsc]; exact rcheck_any (by simp only [List.length_append, lw_len, hbl]; omega) (allB_app (allB_app (lw_byt _ _) (lw_byt _ _)) hbb) w
  have z0 : s.size = m := by rw [← hs, strB_size]; exact hm
  have z4 : s4.size = 4 := by rw [← h4, strB_size, lw_len]
  have z8 : s8.size = 8 := by rw [← h8, strB_size, lw_len]
  have zk : sk.size = 8 := by rw [← hk8, strB_size, lw_len]
  have z16 : s16.size = 16 := by rw [← h16, strB_size, List.length_append, lw_len, lw_len]
  have zb : sb.size = 4 + m := by rw [← hsb, strB_size, hbl]
  have zc : sc.size = 32 := by rw [← hsc, strB_size, chkS_len]
  have E1 : s4 ++ s = sb := (by rw [← h4, ← hs, ← hsb, strB_app, ← hm]; rfl)
  have E2 : s8 ++ sk = s16 := (by rw [← h8, ← hk8, ← h16, strB_app])
  have E3 : s16 ++ sb = sa := (by rw [← h16, ← hsb, ← hsa, strB_app])
  have E4 : Hid (strB (frameS g k r) = sb ++ sc) := Lib.hid (by rw [← hsb, ← hsc, strB_app]; rfl)
  have W1 : IntKind.u64.wrap ((m : Nat) : Int) = ((m : Nat) : Int) := IntWalk.u64_in _ (by omega)
  have W2 : IntKind.u64.wrap ((k : Nat) : Int) = ((k : Nat) : Int) := IntWalk.u64_in _ (by omega)
  have q1 : (9223372036854775807 < 4 + m) = False := eq_false (by omega)
  have q2 : (9223372036854775807 < 16 + (4 + m)) = False := eq_false (by omega)
  have q3 : (9223372036854775807 < 4 + m + 32) = False := eq_false (by omega)
  unfold GivesS
  rw [E4.out, hs]
  clear hs h4 h8 hk8 h16 hsb hsa hsc hbl hbb hm
  go_enter Tryz.func94, Tryz.ntmps94
  go_wp2_with fail
  refine (C1.out w).mono ?_
  rintro e w1 ⟨rfl, b1⟩
  have B1 := Lib.hid b1
  clear b1
  go_wp2_with fail
  refine (C2.out w1).mono ?_
  rintro e w2 ⟨rfl, b2⟩
  have B2 := Lib.hid (B1.out.trans (b2.mono B1.out.size))
  clear b2 B1
  go_wp2_with fail
  refine (C3.out w2).mono ?_
  rintro e w3 ⟨rfl, b3⟩
  have B3 := Lib.hid (B2.out.trans (b3.mono B2.out.size))
  clear b3 B2
  go_wp2_with fail
  refine (C4.out w3).mono ?_
  rintro e w4 ⟨rfl, b4⟩
  have B4 := Lib.hid (B3.out.trans (b4.mono B3.out.size))
  clear b4 B3
  go_wp2_with fail
  go_ret
  exact ⟨rfl, B4.out⟩
set_option maxHeartbeats 4000000 in
/-- What is told of the record at the front. -/
def FirstQ (w : World) (o : Option (List Nat)) (e : Ending) (W : World) : Prop :=
  (match o with | some r => e = .returned (.tuple #[.string (strB r), .bool true]) | none => ∃ q, e = .returned (.tuple #[.string q, .bool false])) ∧ Below w.heap.size w W
set_option maxHeartbeats 4000000 in
theorem rfirst_any {g k : Nat} {L : List Nat} (hg : g < 18446744073709551616) (hk : k < 9223372036854775807) (hl : L.length ≤ 1099511627) (hb : AllB L) (w : World) :
    Calls Tryz.prog 89 #[.string (strB L), .int .u64 (g : Nat), .int .i64 (k : Nat)] w (FirstQ w (firstS g k L)) := by
  obtain ⟨n, hn⟩ : ∃ n, L.length = n := ⟨_, rfl⟩
  have hsz : (strB L).size = n := by rw [strB_size]; exact hn
  by_cases h4 : n < 4
  · have hf : firstS g k L = none := by unfold firstS; rw [if_pos (by omega)]
    rw [hf]
    obtain ⟨s, hs⟩ : ∃ s, strB L = s := ⟨_, rfl⟩
    rw [hs] at hsz ⊢
    have t1 : decide ((n : Int) < 4) = true := decide_eq_true (by omega)
    clear hs hf
    go_enter Tryz.func89, Tryz.ntmps89
    go_wp2_with fail
    exact bodyPost_ret (results_tmp2 rfl _ _ _) rfl ⟨⟨_, rfl⟩, Below.refl _ _⟩
  have t1 : decide ((n : Int) < 4) = false := decide_eq_false (by omega)
  obtain ⟨m, hm⟩ : ∃ m, num (L.take 4) = m := ⟨_, rfl⟩
  have hm4 : m < 4294967296 := by
    have := num_lt (allB_take hb 4)
    rw [List.length_take, hn, Nat.min_eq_left (by omega), hm] at this
    exact this
  obtain ⟨s, hs⟩ : ∃ s, strB L = s := ⟨_, rfl⟩
  obtain ⟨s4, hs4⟩ : ∃ s, strB (L.take 4) = s := ⟨_, rfl⟩
  have x1 : s.extract 0 4 = s4 := by rw [← hs, ← hs4, strB_cut, List.drop_zero]
  have C1 : Hid (∀ w, Calls Tryz.prog 88 #[.string s4] w fun e W => e = .returned (.int .u64 (m : Nat)) ∧ W = w) := Lib.hid fun w => by rw [← hm, ← hs4]; exact rnumber_any (by rw [List.length_take]; omega) (allB_take hb 4) w
  rw [hs] at hsz ⊢
  by_cases h5 : 32768 < m ∨ n < m + 36
  · have hf : firstS g k L = none := by
      unfold firstS
      by_cases h36 : L.length < 36
      · rw [if_pos h36]
      · rw [if_neg h36, hm, hn, if_pos h5]
    rw [hf]
    clear hs hs4 hf hm
    by_cases h6 : 32768 < m
    · have t2 : decide ((32768 : Int) < (m : Int)) = true := decide_eq_true (by omega)
      go_enter Tryz.func89, Tryz.ntmps89
      go_wp2_with fail
      refine (C1.out w).mono ?_
      rintro e w1 ⟨rfl, hw⟩
      obtain rfl := hw
      go_wp2_with fail
      exact bodyPost_ret (results_tmp2 rfl _ _ _) rfl ⟨⟨_, rfl⟩, Below.refl _ _⟩
    · have t2 : decide ((32768 : Int) < (m : Int)) = false := decide_eq_false (by omega)
      have h7 : n < m + 36 := by omega
      have t3 : decide ((n : Int) < (m : Int) + 36) = true := decide_eq_true (by omega)
      go_enter Tryz.func89, Tryz.ntmps89
      go_wp2_with fail
      refine (C1.out w).mono ?_
      rintro e w1 ⟨rfl, hw⟩
      obtain rfl := hw
      go_wp2_with fail
      exact bodyPost_ret (results_tmp2 rfl _ _ _) rfl ⟨⟨_, rfl⟩, Below.refl _ _⟩
  · have t2 : decide ((32768 : Int) < (m : Int)) = false := decide_eq_false (by omega)
    have t3 : decide ((n : Int) < (m : Int) + 36) = false := decide_eq_false (by omega)
    have hle : 4 + m ≤ n := by omega
    have hle2 : m + 36 ≤ n := by omega
    have hr : ((L.drop 4).take m).length = m := by rw [List.length_take, List.length_drop]; omega
    have hrb : AllB ((L.drop 4).take m) := allB_take (allB_drop hb 4) m
    have hf : firstS g k L = if L.take (m + 36) = frameS g k ((L.drop 4).take m) then some ((L.drop 4).take m) else none := by
      unfold firstS
      rw [if_neg (by omega), hm, hn, if_neg h5]
      have e1 : bodyS ((L.drop 4).take m) = L.take (4 + m) := by
        unfold bodyS
        rw [hr, ← hm, lw_take hb (by omega), hm, List.take_add]
      have e2 : L.take (m + 36) = L.take (4 + m) ++ (L.drop (4 + m)).take 32 := by rw [show m + 36 = (4 + m) + 32 by omega, List.take_add]
      unfold frameS
      rw [e1, e2]
      by_cases h : fchkS g k (L.take (4 + m)) = (L.drop (4 + m)).take 32
      · rw [if_pos h, if_pos (by rw [h])]
      · rw [if_neg h, if_neg (fun e => h (List.append_cancel_left e).symm)]
    have CF' := fun w => rframe_any (r := (L.drop 4).take m) hg hk (by omega) hrb w
    have hfb : AllB (frameS g k ((L.drop 4).take m)) := by
      unfold frameS bodyS fchkS
      exact allB_app (allB_app (lw_byt _ _) hrb) (chkS_byt _)
    have hdec := str_dec (allB_take hb (m + 36)) hfb
    rw [hf]
    unfold FirstQ
    have y1 : s.extract 4 (4 + m) = strB ((L.drop 4).take m) := by rw [← hs, strB_cut, List.drop_take]; congr 2; omega
    have y2 : s.extract 0 (m + 36) = strB (L.take (m + 36)) := by rw [← hs, strB_cut, List.drop_zero]
    obtain ⟨R, hR⟩ : ∃ R, (L.drop 4).take m = R := ⟨_, rfl⟩
    rw [hR] at y1 hdec CF' ⊢
    obtain ⟨sr, hsr⟩ : ∃ s, strB R = s := ⟨_, rfl⟩
    obtain ⟨sh, hsh⟩ : ∃ s, strB (L.take (m + 36)) = s := ⟨_, rfl⟩
    obtain ⟨sf, hsf⟩ : ∃ s, strB (frameS g k R) = s := ⟨_, rfl⟩
    have CF : Hid (∀ w, Calls Tryz.prog 94 #[.int .u64 (g : Nat), .int .i64 (k : Nat), .string sr] w fun e W => e = .returned (.string sf) ∧ Below w.heap.size w W) := Lib.hid fun w => by
      have := CF' w
      unfold GivesS at this
      rw [hsr, hsf] at this
      exact this
    have HS := Lib.hid hsr
    rw [hsr] at y1
    rw [hsh] at y2 hdec
    rw [hsf] at hdec
    obtain ⟨q, hq⟩ : ∃ q, m + 36 = q := ⟨_, rfl⟩
    have W2 : IntKind.u64.wrap ((m : Int) + 36) = (q : Int) := by rw [IntWalk.u64_in _ (by omega)]; omega
    have i2 : (q : Int) ≤ (n : Int) := by omega
    rw [hq] at y2 hdec ⊢
    clear hf hs hs4 hm CF' hfb hr hrb hR hsr hsh hsf hq
    by_cases he : L.take q = frameS g k R
    · rw [if_pos he]
      dsimp only
      rw [HS.out]
      rw [decide_eq_true he] at hdec
      clear he
      go_enter Tryz.func89, Tryz.ntmps89
      go_wp2_with fail
      refine (C1.out w).mono ?_
      rintro e w1 ⟨rfl, hw⟩
      obtain rfl := hw
      go_wp2_with fail
      go_region_law (first | (go_simp; (with_reducible refine (CF.out _).mono ?_); rintro e w9 ⟨rfl, b9⟩; have B9 := Lib.hid b9; clear b9; go_simp))
      all_goals go_wp2_with fail
      all_goals exact bodyPost_ret (results_tmp2 rfl _ _ _) rfl ⟨rfl, (Below.refl _ _).drew.trans B9.out⟩
    · rw [if_neg he]
      dsimp only
      rw [decide_eq_false he] at hdec
      clear he
      go_enter Tryz.func89, Tryz.ntmps89
      go_wp2_with fail
      refine (C1.out w).mono ?_
      rintro e w1 ⟨rfl, hw⟩
      obtain rfl := hw
      go_wp2_with fail
      go_region_law (first | (go_simp; (with_reducible refine (CF.out _).mono ?_); rintro e w9 ⟨rfl, b9⟩; have B9 := Lib.hid b9; clear b9; go_simp))
      all_goals go_wp2_with fail
      all_goals exact bodyPost_ret (results_tmp2 rfl _ _ _) rfl ⟨⟨_, rfl⟩, (Below.refl _ _).drew.trans B9.out⟩
end Go.Proofs.YtjcphpmlekfhdaaGreatDoor
