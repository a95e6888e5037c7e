/- TakeVar of the package octet: which number's short form stands at any place. No condition but a bound on the length. -/
import Derived.Test.YtcnmplkljpkheaaTakeAny
import Derived.Test.YtcnmplkljpkheaaRVar
namespace Go.Proofs.Ytcnmplkljpkheaa
open Go.RowKit

/-- Does a short form stand in L at p, which number's, and how long is it? -/
def tvOk (L : List Nat) (p : Nat) : Prop := p < L.length ∧ (nth L p < 253 ∨ (p + 1 + behindN (nth L p) ≤ L.length ∧ first (numAt L (p + 1) (behindN (nth L p))) = nth L p))
instance (L : List Nat) (p : Nat) : Decidable (tvOk L p) := by unfold tvOk; infer_instance
def tvN (L : List Nat) (p : Nat) : Nat := if nth L p < 253 then nth L p else numAt L (p + 1) (behindN (nth L p))
def tvRn (L : List Nat) (a : Int) : Nat := if 0 ≤ a ∧ a ≤ L.length ∧ tvOk L a.toNat then tvN L a.toNat else 0
def tvRp (L : List Nat) (a : Int) : Int := if 0 ≤ a ∧ a ≤ L.length ∧ tvOk L a.toNat then a + 1 + (behindN (nth L a.toNat) : Nat) else 0
def tvRe (L : List Nat) (a : Int) : Int := if 0 ≤ a ∧ a ≤ L.length then if tvOk L a.toNat then 0 else 5 else 1
def TvEnd (L : List Nat) (a : Int) (w : World) (e : Ending) (w' : World) : Prop :=
  e = .returned (.tuple #[.int .u64 (tvRn L a : Nat), .int .i64 (tvRp L a), .int .i64 (tvRe L a)]) ∧ Below w.heap.size w w'
theorem tv_arg {L : List Nat} {a : Int} (h : ¬ (0 ≤ a ∧ a ≤ L.length)) : tvRn L a = 0 ∧ tvRp L a = 0 ∧ tvRe L a = 1 :=
  ⟨if_neg fun h2 => h ⟨h2.1, h2.2.1⟩, if_neg fun h2 => h ⟨h2.1, h2.2.1⟩, if_neg h⟩
theorem tv_no {L : List Nat} {p : Nat} (hp : p ≤ L.length) (h : ¬ tvOk L p) : tvRn L p = 0 ∧ tvRp L p = 0 ∧ tvRe L p = 5 := by
  refine ⟨if_neg fun h2 => h h2.2.2, if_neg fun h2 => h h2.2.2, ?_⟩
  unfold tvRe
  rw [if_pos ⟨by omega, by omega⟩, Int.toNat_natCast, if_neg h]
theorem tv_yes {L : List Nat} {p : Nat} (h : tvOk L p) : tvRn L p = tvN L p ∧ tvRp L p = p + 1 + (behindN (nth L p) : Nat) ∧ tvRe L p = 0 := by
  have hp := h.1
  have hc : (0 : Int) ≤ (p : Int) ∧ (p : Int) ≤ L.length ∧ tvOk L (p : Int).toNat := ⟨by omega, by omega, by rw [Int.toNat_natCast]; exact h⟩
  refine ⟨?_, ?_, ?_⟩
  · unfold tvRn; rw [if_pos hc, Int.toNat_natCast]
  · unfold tvRp; rw [if_pos hc, Int.toNat_natCast]
  · unfold tvRe; rw [if_pos ⟨hc.1, hc.2.1⟩, if_pos hc.2.2]

/-- Take at these arguments answers this. -/
def TakeIs (f : FuncId) (L : List Nat) (a s : Int) (n : Nat) (q e : Int) : Prop :=
  ∀ (A : Option Addr) (m c : Nat) (w : World), m ≤ 549755813888 → m ≤ c → Bs w A m L → Calls Try.prog f #[.slice A m c, .int .i64 a, .int .i64 s] w fun x w' => x = .returned (.tuple #[.int .u64 (n : Nat), .int .i64 q, .int .i64 e]) ∧ Below w.heap.size w w'
theorem takeIs {L : List Nat} {a s : Int} {n : Nat} {q e : Int} (a0 : -9223372036854775808 ≤ a) (a1 : a ≤ 9223372036854775807) (h1 : takeN L a s = n) (h2 : takeP L a s = q) (h3 : takeE L a s = e) : TakeIs 11 L a s n q e := fun A m c w hm hc hL => by
  have := take_any (c := c) a s a0 a1 w hm hc hL
  unfold TakeEnd at this
  rwa [h1, h2, h3] at this
theorem rtakeIs {L : List Nat} {a s : Int} {n : Nat} {q e : Int} (a0 : -9223372036854775808 ≤ a) (a1 : a ≤ 9223372036854775807) (h1 : takeN L a s = n) (h2 : takeP L a s = q) (h3 : takeE L a s = e) : TakeIs 13 L a s n q e := fun A m c w hm _ hL => by
  have := rtake_any (c := c) a s a0 a1 w hm hL
  unfold TakeEnd at this
  rwa [h1, h2, h3] at this
theorem behind_size {f : Nat} (h : 253 ≤ f) (h2 : f < 256) : sizeB (behindN f : Nat) = true := by
  rcases (by omega : f = 253 ∨ f = 254 ∨ f = 255) with rfl | rfl | rfl <;> rfl

set_option maxRecDepth 100000 in
set_option maxHeartbeats 2000000 in
theorem takeVar_any {A : Option Addr} {m c : Nat} {L : List Nat} (a : Int) (a0 : -9223372036854775808 ≤ a) (a1 : a ≤ 9223372036854775807) (w : World) (hm : m ≤ 549755813888) (hmc : m ≤ c) (hL : Bs w A m L) :
    Calls Try.prog 17 #[.slice A m c, .int .i64 a] w (TvEnd L a w) := by
  obtain rfl := hL.len
  have HL := Lib.hid hL
  clear hL
  obtain ⟨m, HE⟩ : ∃ m : Nat, Hid (L.length = m) := ⟨_, Lib.hid rfl⟩
  rw [HE.out] at hm hmc HL ⊢
  by_cases ha : 0 ≤ a ∧ a ≤ L.length
  case neg =>
    obtain ⟨r1, r2, r3⟩ := tv_arg ha
    have HR : Hid (TvEnd L a w = fun e w' => e = .returned (.tuple #[.int .u64 0, .int .i64 0, .int .i64 1]) ∧ Below w.heap.size w w') := Lib.hid (by funext e w'; unfold TvEnd; rw [r1, r2, r3]; rfl)
    obtain ⟨t1, t2, t3⟩ := take_arg (L := L) (at_ := a) (size := 1) (by omega)
    have HT := Lib.hid (takeIs a0 a1 t1 t2 t3)
    clear ha r1 r2 r3 t1 t2 t3
    go_enter Try.func17, Try.ntmps17
    go_wp2_with fail
    refine (HT.out _ _ _ _ hm hmc HL.out).mono ?_
    rintro e w2 ⟨rfl, hb⟩
    have HB := Lib.hid hb
    clear hb
    go_wp2_with fail
    go_ret3
    rw [HR.out]
    exact ⟨rfl, HB.out⟩
  case pos =>
    obtain ⟨p, rfl⟩ := Int.eq_ofNat_of_zero_le ha.1
    have hp : p ≤ m := by have := ha.2; rw [HE.out] at this; omega
    clear ha
    by_cases hlt : p < m
    case neg =>
      obtain rfl : p = m := by omega
      obtain ⟨r1, r2, r3⟩ := tv_no (L := L) (p := p) (by rw [HE.out]; omega) (fun h => by have := h.1; rw [HE.out] at this; omega)
      have HR : Hid (TvEnd L p w = fun e w' => e = .returned (.tuple #[.int .u64 0, .int .i64 0, .int .i64 5]) ∧ Below w.heap.size w w') := Lib.hid (by funext e w'; unfold TvEnd; rw [r1, r2, r3]; rfl)
      obtain ⟨t1, t2, t3⟩ := take_few (L := L) (at_ := p) (size := 1) rfl (by omega) (by rw [HE.out]; omega) (by rw [HE.out]; omega)
      have HT := Lib.hid (takeIs a0 a1 t1 t2 t3)
      clear r1 r2 r3 t1 t2 t3
      go_enter Try.func17, Try.ntmps17
      go_wp2_with fail
      refine (HT.out _ _ _ _ hm hmc HL.out).mono ?_
      rintro e w2 ⟨rfl, hb⟩
      have HB := Lib.hid hb
      clear hb
      go_wp2_with fail
      go_ret3
      rw [HR.out]
      exact ⟨rfl, HB.out⟩
    case pos =>
      obtain ⟨t1, t2, t3⟩ := take_ok (L := L) (at_ := p) (size := 1) rfl (by omega) (by rw [HE.out]; omega)
      have e1 : numAt L (p : Int).toNat (1 : Int).toNat = nth L p := by rw [Int.toNat_natCast, show (1 : Int).toNat = 0 + 1 from rfl, numAt, numAt]; rfl
      rw [e1] at t1
      have hf := nth_lt HL.out.byt p
      obtain ⟨f, hfe⟩ : ∃ f, nth L p = f := ⟨_, rfl⟩
      rw [hfe] at t1 hf
      have HT := Lib.hid (takeIs a0 a1 t1 t2 t3)
      have HFE := Lib.hid hfe
      clear t1 t2 t3 e1 hfe
      by_cases h253 : f < 253
      · have ok : tvOk L p := ⟨by rw [HE.out]; exact hlt, .inl (by rw [HFE.out]; exact h253)⟩
        obtain ⟨r1, r2, r3⟩ := tv_yes ok
        have hb0 : behindN f = 0 := by unfold behindN; rw [if_neg (by omega), if_neg (by omega), if_neg (by omega)]
        rw [show tvN L p = f by unfold tvN; rw [HFE.out, if_pos h253]] at r1
        rw [HFE.out, hb0] at r2
        have HR : Hid (TvEnd L p w = fun e w' => e = .returned (.tuple #[.int .u64 (f : Nat), .int .i64 ((p : Int) + 1), .int .i64 0]) ∧ Below w.heap.size w w') := Lib.hid (by funext e w'; unfold TvEnd; rw [r1, r2, r3]; simp)
        clear r1 r2 r3 ok hb0
        go_enter Try.func17, Try.ntmps17
        go_wp2_with fail
        refine (HT.out _ _ _ _ hm hmc HL.out).mono ?_
        rintro e w2 ⟨rfl, hb⟩
        have HB := Lib.hid hb
        clear hb
        go_wp2_with fail
        go_ret3
        rw [HR.out]
        exact ⟨rfl, HB.out⟩
      · have hz := behind_size (by omega : 253 ≤ f) hf
        obtain ⟨k, hk⟩ : ∃ k, behindN f = k := ⟨_, rfl⟩
        have HBH := Lib.hid (behind_k hf hk)
        have W8 : IntKind.u8.wrap (f : Int) = (f : Int) := by rw [IntKind.wrap_u8]; omega
        rw [hk] at hz
        have hk8 : k ≤ 8 := by rw [← hk]; exact behind_le f
        have HK := Lib.hid hk
        clear hk
        by_cases hroom : p + 1 + k ≤ m
        · obtain ⟨t1, t2, t3⟩ := take_ok (L := L) (at_ := (p : Int) + 1) (size := (k : Int)) hz (by omega) (by rw [HE.out]; omega)
          rw [show ((p : Int) + 1).toNat = p + 1 by omega, Int.toNat_natCast] at t1
          have hn64 := numAt_64 HL.out.byt (k := k) (p := p + 1) hk8
          obtain ⟨n, hn⟩ : ∃ n, numAt L (p + 1) k = n := ⟨_, rfl⟩
          rw [hn] at t1 hn64
          have HT2 := Lib.hid (takeIs (by omega) (by omega) t1 t2 t3)
          have HN := Lib.hid hn
          clear t1 t2 t3 hn hz
          obtain ⟨g, hg⟩ : ∃ g, first n = g := ⟨_, rfl⟩
          have HFO := Lib.hid (firstOf_f hn64 hg)
          have hg8 : g < 256 := by rw [← hg]; exact first_lt n
          have HG := Lib.hid hg
          clear hg
          by_cases hgf : g = f
          · have ok : tvOk L p := ⟨by rw [HE.out]; exact hlt, .inr (by rw [HFE.out, HK.out, HN.out, HG.out, HE.out]; exact ⟨hroom, hgf⟩)⟩
            obtain ⟨r1, r2, r3⟩ := tv_yes ok
            rw [show tvN L p = n by unfold tvN; rw [HFE.out, if_neg h253, HK.out, HN.out]] at r1
            rw [HFE.out, HK.out] at r2
            have HR : Hid (TvEnd L p w = fun e w' => e = .returned (.tuple #[.int .u64 (n : Nat), .int .i64 ((p : Int) + 1 + (k : Nat)), .int .i64 0]) ∧ Below w.heap.size w w') := Lib.hid (by funext e w'; unfold TvEnd; rw [r1, r2, r3])
            clear r1 r2 r3 ok
            have t4 : ((g : Int) != (f : Int)) = false := by simp [hgf]
            clear hgf
            go_enter Try.func17, Try.ntmps17
            go_wp2_with fail
            refine (HT.out _ _ _ _ hm hmc HL.out).mono ?_
            rintro e w2 ⟨rfl, hb⟩
            have HB := Lib.hid hb
            clear hb
            go_wp2_with fail
            refine (HBH.out _).mono ?_
            rintro e w3 ⟨rfl, rfl⟩
            go_wp2_with fail
            refine (HT2.out _ _ _ _ hm hmc (HL.out.later HB.out)).mono ?_
            rintro e w4 ⟨rfl, hb⟩
            have HB2 := Lib.hid (HB.out.trans (hb.mono HB.out.size))
            clear hb
            go_wp2_with fail
            refine (HFO.out _).mono ?_
            rintro e w5 ⟨rfl, rfl⟩
            go_wp2_with fail
            go_ret3
            rw [HR.out]
            exact ⟨rfl, HB2.out⟩
          · have no : ¬ tvOk L p := fun h => by
              rcases h.2 with h2 | ⟨_, h2⟩
              · rw [HFE.out] at h2; omega
              · rw [HFE.out, HK.out, HN.out, HG.out] at h2; exact hgf h2
            obtain ⟨r1, r2, r3⟩ := tv_no (by rw [HE.out]; omega) no
            have HR : Hid (TvEnd L p w = fun e w' => e = .returned (.tuple #[.int .u64 0, .int .i64 0, .int .i64 5]) ∧ Below w.heap.size w w') := Lib.hid (by funext e w'; unfold TvEnd; rw [r1, r2, r3]; rfl)
            clear r1 r2 r3 no
            have t4 : ((g : Int) != (f : Int)) = true := by rw [bne_iff_ne]; omega
            clear hgf
            go_enter Try.func17, Try.ntmps17
            go_wp2_with fail
            refine (HT.out _ _ _ _ hm hmc HL.out).mono ?_
            rintro e w2 ⟨rfl, hb⟩
            have HB := Lib.hid hb
            clear hb
            go_wp2_with fail
            refine (HBH.out _).mono ?_
            rintro e w3 ⟨rfl, rfl⟩
            go_wp2_with fail
            refine (HT2.out _ _ _ _ hm hmc (HL.out.later HB.out)).mono ?_
            rintro e w4 ⟨rfl, hb⟩
            have HB2 := Lib.hid (HB.out.trans (hb.mono HB.out.size))
            clear hb
            go_wp2_with fail
            refine (HFO.out _).mono ?_
            rintro e w5 ⟨rfl, rfl⟩
            go_wp2_with fail
            go_ret3
            rw [HR.out]
            exact ⟨rfl, HB2.out⟩
        · obtain ⟨t1, t2, t3⟩ := take_few (L := L) (at_ := (p : Int) + 1) (size := (k : Int)) hz (by omega) (by rw [HE.out]; omega) (by rw [HE.out]; omega)
          have HT2 := Lib.hid (takeIs (by omega) (by omega) t1 t2 t3)
          clear t1 t2 t3 hz
          have no : ¬ tvOk L p := fun h => by
            rcases h.2 with h2 | ⟨h2, _⟩
            · rw [HFE.out] at h2; omega
            · rw [HFE.out, HK.out, HE.out] at h2; exact hroom h2
          obtain ⟨r1, r2, r3⟩ := tv_no (by rw [HE.out]; omega) no
          have HR : Hid (TvEnd L p w = fun e w' => e = .returned (.tuple #[.int .u64 0, .int .i64 0, .int .i64 5]) ∧ Below w.heap.size w w') := Lib.hid (by funext e w'; unfold TvEnd; rw [r1, r2, r3]; rfl)
          clear r1 r2 r3 no
          go_enter Try.func17, Try.ntmps17
          go_wp2_with fail
          refine (HT.out _ _ _ _ hm hmc HL.out).mono ?_
          rintro e w2 ⟨rfl, hb⟩
          have HB := Lib.hid hb
          clear hb
          go_wp2_with fail
          refine (HBH.out _).mono ?_
          rintro e w3 ⟨rfl, rfl⟩
          go_wp2_with fail
          refine (HT2.out _ _ _ _ hm hmc (HL.out.later HB.out)).mono ?_
          rintro e w4 ⟨rfl, hb⟩
          have HB2 := Lib.hid (HB.out.trans (hb.mono HB.out.size))
          clear hb
          go_wp2_with fail
          go_ret3
          rw [HR.out]
          exact ⟨rfl, HB2.out⟩
end Go.Proofs.Ytcnmplkljpkheaa
