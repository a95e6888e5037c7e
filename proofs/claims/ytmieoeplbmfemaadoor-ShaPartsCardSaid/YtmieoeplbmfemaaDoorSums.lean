/- ShaSums: the sum, and the sum of the sum, of any bytes. No condition but the statement's own. -/
import Derived.Test.YtmieoeplbmfemaaDoorWorks
namespace Go.Proofs.YtmieoeplbmfemaaDoor
open Go.RowKit

theorem rsum_st {M : List Nat} {m c : Nat} {A : Option Addr} (hm : m ≤ 274877906944) (w : World) (hA : Bs w A m M) : Calls Tryd.prog 11 #[.slice A m c] w fun e w' => e = .returned (.agg (vals (shaS M)).toArray) ∧ Below w.heap.size w w' := refSum_any w hm hA
theorem rtwice_st {M : List Nat} {m c : Nat} {A : Option Addr} (hm : m ≤ 274877906944) (w : World) (hA : Bs w A m M) : Calls Tryd.prog 13 #[.slice A m c] w fun e w' => e = .returned (.agg (vals (shaS (shaS M))).toArray) ∧ Below w.heap.size w w' := by
  obtain rfl := hA.len
  exact refTwice_any hm w hA

/-- What the sums give of some bytes, the sums by names. -/
structure SumsOf (w : World) (M H1 H2 : List Nat) (m : Nat) : Prop where
  p1 : ∀ (w1 : World) (A : Option Addr) (c : Nat), Below w.heap.size w w1 → Bs w1 A m M → m ≤ c → Calls Tryd.prog 10 #[.slice A m c] w1 fun e w' => e = .returned (.agg (vals H1).toArray) ∧ Below w1.heap.size w1 w'
  p2 : ∀ (w1 : World) (A : Option Addr) (c : Nat), Below w.heap.size w w1 → Bs w1 A m M → m ≤ c → Calls Tryd.prog 12 #[.slice A m c] w1 fun e w' => e = .returned (.agg (vals H2).toArray) ∧ Below w1.heap.size w1 w'
  r1 : ∀ (w1 : World) (A : Option Addr) (c : Nat), Bs w1 A m M → Calls Tryd.prog 11 #[.slice A m c] w1 fun e w' => e = .returned (.agg (vals H1).toArray) ∧ Below w1.heap.size w1 w'
  r2 : ∀ (w1 : World) (A : Option Addr) (c : Nat), Bs w1 A m M → Calls Tryd.prog 13 #[.slice A m c] w1 fun e w' => e = .returned (.agg (vals H2).toArray) ∧ Below w1.heap.size w1 w'
  l1 : H1.length = 32
  l2 : H2.length = 32
theorem sumsOf {w : World} {M : List Nat} {m : Nat} (hLd : Laid w) (hm : M.length = m) (hb : AllB M) (hs : m ≤ 274877906944) : ∃ H1 H2, SumsOf w M H1 H2 m ∧ H1 = shaS M :=
  ⟨shaS M, shaS (shaS M), ⟨fun w1 A c b hA hc => sum_st hm hb (by omega) w1 (hLd.later hLd.lt b) hA hc, fun w1 A c b hA hc => twice_st hm hb (by omega) w1 (hLd.later hLd.lt b) hA hc,
    fun w1 A c hA => rsum_st hs w1 hA, fun w1 A c hA => rtwice_st hs w1 hA, shaS_len _, shaS_len _⟩, rfl⟩
theorem eq_same {H : List Nat} (h : H.length = 32) : ∀ w, (Op.equalIn 10000 26 (.agg (vals H).toArray) (.agg (vals H).toArray)).run Tryd.prog w = .ok true w := fun w => (eq_hash h h w).trans (by rw [eqB_yes rfl])

set_option maxRecDepth 100000 in
set_option maxHeartbeats 4000000 in
theorem sums_law {A : Option Addr} {n c : Nat} {L : List Nat} {w : World} (_ : n ≤ c) (_ : c ≤ 9223372036854775807) (hL : Bs w A n L) (hLd : Laid w) :
    Calls Tryd.prog 3 #[.slice A n c] w fun e w' => e = .returned (.bool true) ∧ Below w.heap.size w w' := by
  have HD := Lib.hid hLd
  have HL := Lib.hid hL
  clear hLd hL
  have fin : ∀ w1, Below w.heap.size w w1 → Calls Tryd.prog 8 #[] w1 fun e w' => e = .returned (.bool true) ∧ Below w.heap.size w w' := fun w1 b => (works_any w1 (HD.out.later HD.out.lt b)).mono fun e w' ⟨h1, h2⟩ => ⟨h1, b.trans (h2.mono b.size)⟩
  have FIN := Lib.hid fin
  clear fin
  go_enter Tryd.func3, Tryd.ntmps3
  by_cases hbig : 4096 < n
  · have t1 : decide ((4096 : Int) < (n : Int)) = true := decide_eq_true (by omega)
    go_wp2_with fail
    refine (FIN.out _ (Below.refl _ _)).mono ?_
    rintro e w1 ⟨rfl, hb⟩
    have HB := Lib.hid hb
    clear hb
    go_wp2_with fail
    go_ret
    exact ⟨rfl, HB.out⟩
  · have t1 : decide ((4096 : Int) < (n : Int)) = false := decide_eq_false (by omega)
    go_wp2_with fail
    refine (copied_any _ (by omega) HL.out).mono ?_
    rintro e w1 ⟨A1, n1, c1, rfl, hc1, O⟩
    obtain rfl : n1 = n := by rw [← O.len, HL.out.len]
    have O1 := Lib.hid O.reads
    have B1 := Lib.hid O.bel
    clear O
    obtain ⟨H1, H2, S, hq⟩ := sumsOf HD.out HL.out.len HL.out.byt (by omega)
    clear hq
    have EQ1 := eq_same S.l1
    have EQ2 := eq_same S.l2
    have HS := Lib.hid S
    clear S
    go_wp2_with fail
    refine (HS.out.p1 _ _ _ B1.out O1.out hc1).mono ?_
    rintro e w2 ⟨rfl, hb⟩
    have B2 := Lib.hid (B1.out.trans (hb.mono B1.out.size))
    replace O1 := Lib.hid (O1.out.later hb)
    clear hb B1
    go_wp2_with fail
    refine (HS.out.r1 _ _ _ (HL.out.later B2.out)).mono ?_
    rintro e w3 ⟨rfl, hb⟩
    have B3 := Lib.hid (B2.out.trans (hb.mono B2.out.size))
    replace O1 := Lib.hid (O1.out.later hb)
    clear hb B2
    go_wp2_with fail
    refine (HS.out.p2 _ _ _ B3.out O1.out hc1).mono ?_
    rintro e w4 ⟨rfl, hb⟩
    have B4 := Lib.hid (B3.out.trans (hb.mono B3.out.size))
    replace O1 := Lib.hid (O1.out.later hb)
    clear hb B3
    go_wp2_with fail
    refine (HS.out.r2 _ _ _ (HL.out.later B4.out)).mono ?_
    rintro e w5 ⟨rfl, hb⟩
    have B5 := Lib.hid (B4.out.trans (hb.mono B4.out.size))
    replace O1 := Lib.hid (O1.out.later hb)
    clear hb B4
    go_wp2_with fail
    refine (same_any _ (by omega) (by omega) O1.out (HL.out.later B5.out)).mono ?_
    rintro e w6 ⟨rfl, hb⟩
    rw [eqB_yes rfl]
    have B6 := Lib.hid (B5.out.trans (hb.mono B5.out.size))
    clear hb B5
    go_wp2_with fail
    refine (FIN.out _ B6.out).mono ?_
    rintro e w7 ⟨rfl, hb⟩
    have B7 := Lib.hid hb
    clear hb
    go_wp2_with fail
    go_ret
    exact ⟨rfl, B7.out⟩
end Go.Proofs.YtmieoeplbmfemaaDoor
