/- DiskFuse: with a fuse just so many calls are done. No condition. -/
import Derived.Test.YtgnomopiofpknaaFuzS
namespace Go.Proofs.Ytgnomopiofpknaa
open Go.RowKit

theorem new_q {w0 w : World} (b : Below w0.heap.size w0 w) {m : Nat} (h1 : 1 ≤ m) (h2 : m ≤ 4194304) :
    Calls Try.prog 10 #[.int .i64 (m : Nat)] w fun e W => ∃ d, e = .returned (.tuple #[.pointer (some ⟨d, 0, none⟩), .int .i64 0]) ∧ w0.heap.size ≤ d ∧ Dq w0 d (newD m) W :=
  (new_any h1 h2).mono fun e W ⟨e1, e2⟩ => ⟨_, e1, b.size, by rw [e2]; exact ⟨_, Dsk.new b h2⟩⟩
theorem read_q {w0 w : World} {d : Nat} {S : Dk} (D : Dq w0 d S w) (hn : S.cnt ≤ 1073741823) (f : Int) :
    Calls Try.prog 21 #[.pointer (some ⟨d, 0, none⟩), .int .i64 f] w fun e W => ∃ A n c, e = .returned (.tuple #[.slice A n c, .int .i64 (S.read f).2]) ∧ n ≤ c ∧ Bs W A n (S.read f).1 ∧ Dq w0 d S W := by
  obtain ⟨F, D⟩ := D
  exact (read_any D hn f).mono fun e W ⟨A, n, c, h1, h2, h3⟩ => ⟨A, n, c, h1, h2, h3.reads, F, D.later h3.bel⟩
set_option maxRecDepth 100000 in
set_option maxHeartbeats 8000000 in
theorem fuse_law (n : Nat) (hn : n < 256) {A : Option Addr} {m c : Nat} {L : List Nat} {w : World} (hmc : m ≤ c) (hc : c ≤ 9223372036854775807) (hL : Bs w A m L) :
    Calls Try.prog 6 #[.int .u8 (n : Nat), .slice A m c] w fun e w' => e = .returned (.bool true) ∧ Below w.heap.size w w' := by
  have HL := Lib.hid hL
  clear hL
  have HN := Lib.hid (new_q (Below.refl w.heap.size w) (m := 4096) (by decide) (by decide))
  go_enter Try.func6, Try.ntmps6
  go_wp2_with fail
  refine (HN.out).mono ?_
  rintro e w1 ⟨d, rfl, hd, D'⟩
  have D0 := Lib.hid D'
  have HD := Lib.hid hd
  clear D' hd HN
  by_cases hv : 1024 < m
  · have t1 : decide ((1024 : Int) < (m : Int)) = true := decide_eq_true (by omega)
    go_wp2_with fail
    refine (works_any _).mono ?_
    rintro e w2 ⟨rfl, hb⟩
    have HB := Lib.hid (D0.out.bel.trans (hb.mono D0.out.bel.size))
    clear hb
    go_wp2_with fail
    go_ret
    exact ⟨rfl, HB.out⟩
  · have t1 : decide ((1024 : Int) < (m : Int)) = false := decide_eq_false (by omega)
    go_wp2_with fail
    refine (fuse_q D0.out (n : Int) (by omega) (x := 0) rfl rfl).mono ?_
    rintro e w2 ⟨rfl, D'⟩
    have D1 := Lib.hid D'
    have Z0 := Lib.hid (fzAt_start n (by omega))
    clear D' D0
    go_wp2_with fail
    go_loopw [7] (fun i wr => ∃ (k : Nat) (S : Dk), k ≤ m ∧ i = .int .i64 (k : Nat) ∧ FzAt n k S ∧ Dq w d S wr) (fun i _ => m - (intOf i).toNat)
    case atStart => exact ⟨0, _, Nat.zero_le _, rfl, Z0.out, D1.out⟩
    case round =>
      obtain ⟨k, S, hk, rfl, Z, D⟩ := hrel
      clear Z0 D1
      have HZ := Lib.hid Z
      have HQ := Lib.hid D
      clear Z D
      by_cases hlt : k < m
      · obtain ⟨a, rfl, ha, ca, la⟩ := (HL.out.later HQ.out.bel).at_ hlt
        obtain ⟨b, hb⟩ : ∃ b, nth L k = b := ⟨_, rfl⟩
        rw [hb] at ca la
        obtain ⟨i, hi'⟩ : ∃ i, b % 2 = i := ⟨_, rfl⟩
        have hi : i = 0 ∨ i = 1 := by omega
        have EF : Hid ((b : Int) % 2 = (i : Int)) := Lib.hid (by omega)
        have hm : m ≤ 1024 := by omega
        clear hb hi'
        by_cases hkn : k < n
        · have EA : Hid (fzA n k = 0) := Lib.hid (by unfold fzA; rw [if_pos hkn])
          have t2 : decide ((k : Int) < (n : Int)) = true := decide_eq_true (by omega)
          have hkn2 : (k : Int) < (n : Int) := by omega
          have E2 : Hid (∀ S', FzAt n (k + 1) S' → (S'.write 2 []).1 = 1 ∧ (S'.write 2 []).2 = S') := Lib.hid fun S' Z' => by rw [Z'.two]; exact ⟨by rw [if_neg (by omega)], rfl⟩
          go_wp2_with fail
          · have ZA := HZ.out.write hi (by omega) la
            have g := (Below.refl wr.heap.size wr).alloc (Nat.le_refl _) (.cells #[.int .u8 (b : Nat)] 5)
            have ne : wr.heap.size ≠ d := by have := HQ.out.lt; omega
            have lb := Bs.lit1 wr la
            rw [EF.out]
            refine (write_q (HQ.out.later g) (by have := HZ.out.cnt; omega) (i : Int) lb (fun _ a e => by injection e with e; subst e; exact ne) (Nat.le_refl _) (by decide) (ZA.1.trans EA.out) rfl).mono ?_
            clear g lb
            rintro e w5 ⟨rfl, D'⟩
            have DA := Lib.hid D'
            clear D'
            go_wp2_with fail
            refine (write_q DA.out (by have := ZA.2.cnt; omega) 2 (A := none) (n := 0) (c := 0) (Bs.nil _ _) (fun h => absurd h (by omega)) (Nat.le_refl _) (by decide) (E2.out _ ZA.2).1 (E2.out _ ZA.2).2).mono ?_
            rintro e w6 ⟨rfl, D'⟩
            have DB := Lib.hid D'
            clear D'
            go_wp2_with fail
            go_roundw
            case rel => exact ⟨k + 1, _, by omega, by go_num, ZA.2, DB.out⟩
            case measure => simp [intOf]; omega
          · have ZA := HZ.out.cut hi
            rw [EF.out]
            refine (cut_q HQ.out (by have := HZ.out.cnt; omega) (i : Int) 0 (ZA.1.trans EA.out) rfl).mono ?_
            rintro e w5 ⟨rfl, D'⟩
            have DA := Lib.hid D'
            clear D'
            go_wp2_with fail
            refine (write_q DA.out (by have := ZA.2.cnt; omega) 2 (A := none) (n := 0) (c := 0) (Bs.nil _ _) (fun h => absurd h (by omega)) (Nat.le_refl _) (by decide) (E2.out _ ZA.2).1 (E2.out _ ZA.2).2).mono ?_
            rintro e w6 ⟨rfl, D'⟩
            have DB := Lib.hid D'
            clear D'
            go_wp2_with fail
            go_roundw
            case rel => exact ⟨k + 1, _, by omega, by go_num, ZA.2, DB.out⟩
            case measure => simp [intOf]; omega
          · have ZA := HZ.out.sync hi
            rw [EF.out]
            refine (sync_q HQ.out (by have := HZ.out.cnt; omega) (i : Int) (ZA.1.trans EA.out) rfl).mono ?_
            rintro e w5 ⟨rfl, D'⟩
            have DA := Lib.hid D'
            clear D'
            go_wp2_with fail
            refine (write_q DA.out (by have := ZA.2.cnt; omega) 2 (A := none) (n := 0) (c := 0) (Bs.nil _ _) (fun h => absurd h (by omega)) (Nat.le_refl _) (by decide) (E2.out _ ZA.2).1 (E2.out _ ZA.2).2).mono ?_
            rintro e w6 ⟨rfl, D'⟩
            have DB := Lib.hid D'
            clear D'
            go_wp2_with fail
            go_roundw
            case rel => exact ⟨k + 1, _, by omega, by go_num, ZA.2, DB.out⟩
            case measure => simp [intOf]; omega
        · have EA : Hid (fzA n k = 8) := Lib.hid (by unfold fzA; rw [if_neg hkn])
          have t2 : decide ((k : Int) < (n : Int)) = false := decide_eq_false (by omega)
          have hkn2 : ¬ (k : Int) < (n : Int) := by omega
          have E2 : Hid (∀ S', FzAt n (k + 1) S' → (S'.write 2 []).1 = 8 ∧ (S'.write 2 []).2 = S') := Lib.hid fun S' Z' => by rw [Z'.two]; exact ⟨by rw [if_pos (by omega)], rfl⟩
          go_wp2_with fail
          · have ZA := HZ.out.write hi (by omega) la
            have g := (Below.refl wr.heap.size wr).alloc (Nat.le_refl _) (.cells #[.int .u8 (b : Nat)] 5)
            have ne : wr.heap.size ≠ d := by have := HQ.out.lt; omega
            have lb := Bs.lit1 wr la
            rw [EF.out]
            refine (write_q (HQ.out.later g) (by have := HZ.out.cnt; omega) (i : Int) lb (fun _ a e => by injection e with e; subst e; exact ne) (Nat.le_refl _) (by decide) (ZA.1.trans EA.out) rfl).mono ?_
            clear g lb
            rintro e w5 ⟨rfl, D'⟩
            have DA := Lib.hid D'
            clear D'
            go_wp2_with fail
            refine (write_q DA.out (by have := ZA.2.cnt; omega) 2 (A := none) (n := 0) (c := 0) (Bs.nil _ _) (fun h => absurd h (by omega)) (Nat.le_refl _) (by decide) (E2.out _ ZA.2).1 (E2.out _ ZA.2).2).mono ?_
            rintro e w6 ⟨rfl, D'⟩
            have DB := Lib.hid D'
            clear D'
            go_wp2_with fail
            go_roundw
            case rel => exact ⟨k + 1, _, by omega, by go_num, ZA.2, DB.out⟩
            case measure => simp [intOf]; omega
          · have ZA := HZ.out.cut hi
            rw [EF.out]
            refine (cut_q HQ.out (by have := HZ.out.cnt; omega) (i : Int) 0 (ZA.1.trans EA.out) rfl).mono ?_
            rintro e w5 ⟨rfl, D'⟩
            have DA := Lib.hid D'
            clear D'
            go_wp2_with fail
            refine (write_q DA.out (by have := ZA.2.cnt; omega) 2 (A := none) (n := 0) (c := 0) (Bs.nil _ _) (fun h => absurd h (by omega)) (Nat.le_refl _) (by decide) (E2.out _ ZA.2).1 (E2.out _ ZA.2).2).mono ?_
            rintro e w6 ⟨rfl, D'⟩
            have DB := Lib.hid D'
            clear D'
            go_wp2_with fail
            go_roundw
            case rel => exact ⟨k + 1, _, by omega, by go_num, ZA.2, DB.out⟩
            case measure => simp [intOf]; omega
          · have ZA := HZ.out.sync hi
            rw [EF.out]
            refine (sync_q HQ.out (by have := HZ.out.cnt; omega) (i : Int) (ZA.1.trans EA.out) rfl).mono ?_
            rintro e w5 ⟨rfl, D'⟩
            have DA := Lib.hid D'
            clear D'
            go_wp2_with fail
            refine (write_q DA.out (by have := ZA.2.cnt; omega) 2 (A := none) (n := 0) (c := 0) (Bs.nil _ _) (fun h => absurd h (by omega)) (Nat.le_refl _) (by decide) (E2.out _ ZA.2).1 (E2.out _ ZA.2).2).mono ?_
            rintro e w6 ⟨rfl, D'⟩
            have DB := Lib.hid D'
            clear D'
            go_wp2_with fail
            go_roundw
            case rel => exact ⟨k + 1, _, by omega, by go_num, ZA.2, DB.out⟩
            case measure => simp [intOf]; omega
      · have hkm : k = m := by omega
        subst hkm
        by_cases hnk : n < k
        · have ER : Hid ((S.read 0).2 = 8) := Lib.hid (by rw [HZ.out.read]; rw [if_pos hnk])
          have t2 : decide ((n : Int) < (k : Int)) = true := decide_eq_true (by omega)
          have HR := Lib.hid (read_q HQ.out (by have := HZ.out.cnt; omega) 0)
          rw [ER.out] at HR
          go_wp2_with fail
          refine (HR.out).mono ?_
          rintro e w5 ⟨A5, n5, c5, rfl, h5, _, D'⟩
          have DA := Lib.hid D'
          clear D' HR
          go_wp2_with fail
          refine (works_any _).mono ?_
          rintro e w6 ⟨rfl, hb⟩
          have HB := Lib.hid (DA.out.bel.trans (hb.mono DA.out.bel.size))
          clear hb
          go_wp2_with fail
          go_ret
          exact ⟨rfl, HB.out⟩
        · have ER : Hid ((S.read 0).2 = 0) := Lib.hid (by rw [HZ.out.read]; rw [if_neg hnk])
          have t2 : decide ((n : Int) < (k : Int)) = false := decide_eq_false (by omega)
          have HR := Lib.hid (read_q HQ.out (by have := HZ.out.cnt; omega) 0)
          rw [ER.out] at HR
          go_wp2_with fail
          refine (HR.out).mono ?_
          rintro e w5 ⟨A5, n5, c5, rfl, h5, _, D'⟩
          have DA := Lib.hid D'
          clear D' HR
          go_wp2_with fail
          refine (works_any _).mono ?_
          rintro e w6 ⟨rfl, hb⟩
          have HB := Lib.hid (DA.out.bel.trans (hb.mono DA.out.bel.size))
          clear hb
          go_wp2_with fail
          go_ret
          exact ⟨rfl, HB.out⟩
end Go.Proofs.Ytgnomopiofpknaa
