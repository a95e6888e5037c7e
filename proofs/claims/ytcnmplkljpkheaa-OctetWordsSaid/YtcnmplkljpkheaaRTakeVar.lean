/- TakeVar of the document's answers of layer 4: which number's short form stands at any place. No condition but a bound on the length. -/
import Derived.Test.YtcnmplkljpkheaaTakeVar
import Derived.WalkLawsBesides
namespace Go.Proofs.Ytcnmplkljpkheaa
open Go.RowKit

theorem numAt_byte {L : List Nat} (h : AllB L) : ∀ s q j, j < s → numAt L q s / 256 ^ j % 256 = nth L (q + j)
  | s + 1, q, 0, _ => by
    have := nth_lt h q
    show _ = nth L q
    rw [numAt, Nat.pow_zero, Nat.div_one]; omega
  | s + 1, q, j + 1, hj => by
    have h1 := numAt_byte h s (q + 1) j (by omega)
    have h2 := nth_lt h q
    rw [numAt, Nat.pow_succ, Nat.mul_comm (256 ^ j), ← Nat.div_div_eq_div_mul, show (nth L q + 256 * numAt L (q + 1) s) / 256 = numAt L (q + 1) s by omega, h1]
    congr 1; omega
theorem varS_head (n : Nat) : nth (varS n) 0 = first n := rfl
theorem varS_tail (n j : Nat) (h : j < behindN (first n)) : nth (varS n) (j + 1) = n / 256 ^ j % 256 := by
  have := nth_right [first n] (low n (behindN (first n))) j
  rw [List.length_singleton, Nat.add_comm 1 j] at this
  rw [varS, this, low_nth n _ j h]

/-- Does the short form of the number in s bytes stand at p? The number may stand at p itself, or one place behind it. -/
def Hit1 (L : List Nat) (p : Nat) : Prop := p + 1 ≤ L.length ∧ startsB L p (varS (numAt L p 1)) = true ∧ (varS (numAt L p 1)).length = 1
def Hit (L : List Nat) (p s : Nat) : Prop := p + 1 + s ≤ L.length ∧ startsB L p (varS (numAt L (p + 1) s)) = true ∧ (varS (numAt L (p + 1) s)).length = s + 1
theorem hit1_iff (L : List Nat) (p : Nat) : Hit1 L p ↔ p < L.length ∧ nth L p < 253 := by
  have e1 : numAt L p 1 = nth L p := by rw [numAt, numAt]; rfl
  unfold Hit1
  rw [e1, varS_length]
  constructor
  · rintro ⟨h1, _, h3⟩
    refine ⟨by omega, ?_⟩
    rcases first_cases (nth L p) with ⟨h, _, _⟩ | ⟨_, _, _, e⟩ | ⟨_, _, _, e⟩ | ⟨_, _, e⟩
    · exact h
    · rw [e] at h3; omega
    · rw [e] at h3; omega
    · rw [e] at h3; omega
  · rintro ⟨h1, h2⟩
    obtain ⟨_, e, e2⟩ : nth L p < 253 ∧ first (nth L p) = nth L p ∧ behindN (first (nth L p)) = 0 := by
      rcases first_cases (nth L p) with h | ⟨h, _⟩ | ⟨h, _⟩ | ⟨h, _⟩
      · exact h
      · omega
      · omega
      · omega
    refine ⟨by omega, startsB_yes (by rw [varS_length, e2]; omega) fun k hk => ?_, by rw [e2]⟩
    rw [varS_length, e2] at hk
    obtain rfl : k = 0 := by omega
    rw [varS_head, e]; rfl
theorem hit_iff {L : List Nat} (h : AllB L) (p s : Nat) : Hit L p s ↔ p + 1 + s ≤ L.length ∧ behindN (nth L p) = s ∧ first (numAt L (p + 1) s) = nth L p := by
  unfold Hit
  rw [varS_length]
  constructor
  · rintro ⟨h1, h2, h3⟩
    have h4 : nth L p = first (numAt L (p + 1) s) := by
      have := (of_decide_eq_true h2).2 0 (by rw [varS_length]; omega)
      rwa [varS_head] at this
    exact ⟨h1, by rw [h4]; omega, h4.symm⟩
  · rintro ⟨h1, h2, h3⟩
    have h4 : behindN (first (numAt L (p + 1) s)) = s := by rw [h3, h2]
    refine ⟨h1, startsB_yes (by rw [varS_length, h4]; omega) fun k hk => ?_, by rw [h4]; omega⟩
    rw [varS_length, h4] at hk
    rcases k with _ | j
    · rw [varS_head, h3]; rfl
    · rw [varS_tail _ _ (by rw [h4]; omega), numAt_byte h s (p + 1) j (by omega)]
      congr 1; omega
theorem tv_hit1 {L : List Nat} {p : Nat} (h : Hit1 L p) : tvOk L p ∧ tvN L p = numAt L p 1 ∧ behindN (nth L p) = 0 := by
  obtain ⟨h1, h2⟩ := (hit1_iff L p).1 h
  refine ⟨⟨h1, .inl h2⟩, ?_, ?_⟩
  · unfold tvN; rw [if_pos h2, numAt, numAt]; rfl
  · unfold behindN; rw [if_neg (by omega), if_neg (by omega), if_neg (by omega)]
theorem tv_hit {L : List Nat} (hb : AllB L) {p s : Nat} (hs : 1 < s) (h : Hit L p s) : tvOk L p ∧ tvN L p = numAt L (p + 1) s ∧ behindN (nth L p) = s := by
  obtain ⟨h1, h2, h3⟩ := (hit_iff hb p s).1 h
  have h4 : ¬ nth L p < 253 := fun h5 => by
    have : behindN (nth L p) = 0 := by unfold behindN; rw [if_neg (by omega), if_neg (by omega), if_neg (by omega)]
    omega
  refine ⟨⟨by omega, .inr (by rw [h2]; exact ⟨h1, h3⟩)⟩, ?_, h2⟩
  unfold tvN; rw [if_neg h4, h2]
theorem tv_none {L : List Nat} (hb : AllB L) {p : Nat} (h1 : ¬ Hit1 L p) (h2 : ¬ Hit L p 2) (h4 : ¬ Hit L p 4) (h8 : ¬ Hit L p 8) : ¬ tvOk L p := by
  rintro ⟨hp, h | ⟨h, e⟩⟩
  · exact h1 ((hit1_iff L p).2 ⟨hp, h⟩)
  · have hf := nth_lt hb p
    by_cases hl : nth L p < 253
    · exact h1 ((hit1_iff L p).2 ⟨hp, hl⟩)
    · rcases (by omega : nth L p = 253 ∨ nth L p = 254 ∨ nth L p = 255) with e1 | e1 | e1
      · have eb : behindN (nth L p) = 2 := by rw [e1]; rfl
        rw [eb] at h e
        exact h2 ((hit_iff hb p 2).2 ⟨h, eb, e⟩)
      · have eb : behindN (nth L p) = 4 := by rw [e1]; rfl
        rw [eb] at h e
        exact h4 ((hit_iff hb p 4).2 ⟨h, eb, e⟩)
      · have eb : behindN (nth L p) = 8 := by rw [e1]; rfl
        rw [eb] at h e
        exact h8 ((hit_iff hb p 8).2 ⟨h, eb, e⟩)
/-- None of the sizes below s was a hit. -/
def Past (L : List Nat) (p s : Nat) : Prop := (1 < s → ¬ Hit1 L p) ∧ ∀ t, 1 < t → t < s → (t = 2 ∨ t = 4 ∨ t = 8) → ¬ Hit L p t

theorem past_one {L : List Nat} {p : Nat} (h : ¬ Hit1 L p) : Past L p 2 := ⟨fun _ => h, fun t h1 h2 _ => by omega⟩
theorem past_next {L : List Nat} {p s : Nat} (hs : s = 1 ∨ s = 2 ∨ s = 4 ∨ s = 8 ∨ s = 16) (h1 : 1 < s) (h : Past L p s) (hn : ¬ Hit L p s) : Past L p (2 * s) :=
  ⟨fun _ => h.1 h1, fun t a b c => by
    rcases (by omega : t < s ∨ t = s) with e | rfl
    · exact h.2 t a e c
    · exact hn⟩

theorem rvar_vs {n : Nat} (hn : n < 18446744073709551616) {V : List Nat} (e : varS n = V) (w : World) : Calls Try.prog 19 #[.int .u64 (n : Nat)] w (GivesB w V) := by subst e; exact rvar_any n hn w
theorem starts_b {L V : List Nat} {p : Nat} {b : Bool} (e : startsB L p V = b) {A B : Option Addr} {n m c d : Nat} (w : World) (hn : n ≤ 1099511627776) (hm : m ≤ 1099511627776) (hp : p ≤ n) (hL : Bs w A n L) (hM : Bs w B m V) :
    Calls Try.prog 36 #[.slice A n c, .int .i64 (p : Nat), .slice B m d] w fun e w' => e = .returned (.bool b) ∧ Below w.heap.size w w' := by
  subst e; exact starts_any p w hn hm hp hL hM

set_option maxRecDepth 100000 in
set_option maxHeartbeats 4000000 in
theorem rtakeVar_any {A : Option Addr} {m c : Nat} {L : List Nat} (a : Int) (a0 : -9223372036854775808 ≤ a) (a1 : a ≤ 9223372036854775807) (w : World) (hm : m ≤ 549755813888) (hmc : m ≤ c) (hL : Bs w A m L) :
    Calls Try.prog 18 #[.slice A m c, .int .i64 a] w (TvEnd L a w) := by
  obtain rfl := hL.len
  have HL := Lib.hid hL
  clear hL
  obtain ⟨m, HE⟩ : ∃ m : Nat, Hid (L.length = m) := ⟨_, Lib.hid rfl⟩
  rw [HE.out] at hm hmc HL ⊢
  by_cases ha : 0 ≤ a ∧ a ≤ L.length
  case neg =>
    obtain ⟨r1, r2, r3⟩ := tv_arg ha
    have HR : Hid (TvEnd L a w = fun e w' => e = .returned (.tuple #[.int .u64 0, .int .i64 0, .int .i64 1]) ∧ Below w.heap.size w w') := Lib.hid (by funext e w'; unfold TvEnd; rw [r1, r2, r3]; rfl)
    rw [HE.out] at ha
    clear r1 r2 r3
    by_cases hneg : a < 0
    · have t1 : decide (a < 0) = true := decide_eq_true hneg
      clear ha
      go_enter Try.func18, Try.ntmps18
      go_wp2_with fail
      go_ret3
      rw [HR.out]
      exact ⟨rfl, Below.refl _ _⟩
    · have t1 : decide (a < 0) = false := decide_eq_false hneg
      have t2 : decide ((m : Int) < a) = true := decide_eq_true (by omega)
      clear ha
      go_enter Try.func18, Try.ntmps18
      go_wp2_with fail
      go_ret3
      rw [HR.out]
      exact ⟨rfl, Below.refl _ _⟩
  case pos =>
    obtain ⟨p, rfl⟩ := Int.eq_ofNat_of_zero_le ha.1
    have hp : p ≤ m := by have := ha.2; rw [HE.out] at this; omega
    clear ha
    have t1 : decide ((p : Int) < 0) = false := decide_eq_false (by omega)
    have t2 : decide ((m : Int) < (p : Int)) = false := decide_eq_false (by omega)
    have t2n : decide (m < p) = false := decide_eq_false (by omega)
    go_enter Try.func18, Try.ntmps18
    go_wp2_with fail
    go_loopw [7] (fun i wr => ∃ s : Nat, (s = 1 ∨ s = 2 ∨ s = 4 ∨ s = 8 ∨ s = 16) ∧ i = .int .i64 (s : Nat) ∧ Hid (Past L p s) ∧ Below w.heap.size w wr) (fun i _ => 16 - (intOf i).toNat)
    case atStart => exact ⟨1, by omega, rfl, ⟨fun h => absurd h (by omega), fun t h1 h2 => by omega⟩, Below.refl _ _⟩
    case round =>
      obtain ⟨s, hs, rfl, PA, bel⟩ := hrel
      have HB := Lib.hid bel
      clear bel
      have HS := Lib.hid hs
      rcases (by omega : s = 1 ∨ s = 16 ∨ (1 < s ∧ s ≤ 8)) with rfl | rfl | ⟨s1, s8⟩
      · clear hs
        by_cases hlt : p < m
        · obtain ⟨r1, r2, r3⟩ := take_ok (L := L) (at_ := (p : Int)) (size := 1) rfl (by omega) (by rw [HE.out]; omega)
          rw [Int.toNat_natCast, show (1 : Int).toNat = 1 from rfl] at r1
          have hn64 := numAt_64 HL.out.byt (k := 1) (p := p) (by omega)
          obtain ⟨n, hn⟩ : ∃ n, numAt L p 1 = n := ⟨_, rfl⟩
          have HN := Lib.hid hn
          rw [hn] at r1 hn64
          have HT := Lib.hid (rtakeIs (by omega) (by omega) r1 r2 r3)
          obtain ⟨V, hV⟩ : ∃ V, varS n = V := ⟨_, rfl⟩
          have HV := Lib.hid hV
          have HVAR := Lib.hid (rvar_vs hn64 hV)
          have hvl : V.length ≤ 9 := by rw [← hV, varS_length]; have := behind_le (first n); omega
          have HVL := Lib.hid hvl
          clear r1 r2 r3 hn hV hvl hn64
          cases hst : startsB L p V with
          | false =>
            have HST := Lib.hid hst
            clear hst
            go_wp2_with fail
            refine (HT.out _ _ _ _ hm hmc (HL.out.later HB.out)).mono ?_
            rintro e w2 ⟨rfl, hb⟩
            have HB2 := Lib.hid (HB.out.trans (hb.mono HB.out.size))
            clear hb
            go_wp2_with fail
            refine (HVAR.out _).mono ?_
            rintro e w3 ⟨A3, n3, c3, rfl, h3, O⟩
            have hl := O.len
            have HB3 := Lib.hid (HB2.out.trans (O.bel.mono HB2.out.size))
            have HR3 := Lib.hid O.reads
            have hn3 : n3 ≤ 9 := by rw [← hl]; exact HVL.out
            clear O hl
            go_wp2_with fail
            refine (starts_b HST.out _ (by omega) (by omega) hp (HL.out.later HB3.out) HR3.out).mono ?_
            rintro e w4 ⟨rfl, hb⟩
            have HB4 := Lib.hid (HB3.out.trans (hb.mono HB3.out.size))
            clear hb
            go_wp2_with fail
            go_roundw
            case rel => exact ⟨2, by omega, by go_num, Lib.hid (past_one (fun h => by have := h.2.1; rw [HN.out, HV.out, HST.out] at this; cases this)), HB4.out⟩
            case measure => simp [intOf]
          | true =>
            have HST := Lib.hid hst
            clear hst
            by_cases hln : V.length = 1
            · obtain ⟨k1, k2, k3⟩ := tv_hit1 (show Hit1 L p from ⟨by rw [HE.out]; omega, by rw [HN.out, HV.out]; exact HST.out, by rw [HN.out, HV.out]; exact hln⟩)
              obtain ⟨r1, r2, r3⟩ := tv_yes k1
              rw [k2, HN.out] at r1
              rw [k3] at r2
              have HR : Hid (TvEnd L p w = fun e w' => e = .returned (.tuple #[.int .u64 (n : Nat), .int .i64 ((p : Int) + 1), .int .i64 0]) ∧ Below w.heap.size w w') := Lib.hid (by funext e w'; unfold TvEnd; rw [r1, r2, r3]; simp)
              clear r1 r2 r3 k1 k2 k3
              have HLN := Lib.hid hln
              clear hln
              go_wp2_with fail
              refine (HT.out _ _ _ _ hm hmc (HL.out.later HB.out)).mono ?_
              rintro e w2 ⟨rfl, hb⟩
              have HB2 := Lib.hid (HB.out.trans (hb.mono HB.out.size))
              clear hb
              go_wp2_with fail
              refine (HVAR.out _).mono ?_
              rintro e w3 ⟨A3, n3, c3, rfl, h3, O⟩
              have hl := O.len
              have HB3 := Lib.hid (HB2.out.trans (O.bel.mono HB2.out.size))
              have HR3 := Lib.hid O.reads
              have hn3 : n3 ≤ 9 := by rw [← hl]; exact HVL.out
              clear O hl
              go_wp2_with fail
              refine (starts_b HST.out _ (by omega) (by omega) hp (HL.out.later HB3.out) HR3.out).mono ?_
              rintro e w4 ⟨rfl, hb⟩
              have HB4 := Lib.hid (HB3.out.trans (hb.mono HB3.out.size))
              clear hb
              go_wp2_with fail
              refine (HVAR.out _).mono ?_
              rintro e w5 ⟨A5, n5, c5, rfl, h5, O⟩
              have hl := O.len
              have HB5 := Lib.hid (HB4.out.trans (O.bel.mono HB4.out.size))
              clear O
              rw [HLN.out] at hl
              obtain rfl := hl
              go_wp2_with fail
              go_ret3
              rw [HR.out]
              exact ⟨by first | rfl | (simp; done) | (simp; omega), HB5.out⟩
            · have hln2 := hln
              have HLN := Lib.hid hln
              clear hln hln2
              go_wp2_with fail
              refine (HT.out _ _ _ _ hm hmc (HL.out.later HB.out)).mono ?_
              rintro e w2 ⟨rfl, hb⟩
              have HB2 := Lib.hid (HB.out.trans (hb.mono HB.out.size))
              clear hb
              go_wp2_with fail
              refine (HVAR.out _).mono ?_
              rintro e w3 ⟨A3, n3, c3, rfl, h3, O⟩
              have hl := O.len
              have HB3 := Lib.hid (HB2.out.trans (O.bel.mono HB2.out.size))
              have HR3 := Lib.hid O.reads
              have hn3 : n3 ≤ 9 := by rw [← hl]; exact HVL.out
              clear O hl
              go_wp2_with fail
              refine (starts_b HST.out _ (by omega) (by omega) hp (HL.out.later HB3.out) HR3.out).mono ?_
              rintro e w4 ⟨rfl, hb⟩
              have HB4 := Lib.hid (HB3.out.trans (hb.mono HB3.out.size))
              clear hb
              go_wp2_with fail
              refine (HVAR.out _).mono ?_
              rintro e w5 ⟨A5, n5, c5, rfl, h5, O⟩
              have hl := O.len
              have HB5 := Lib.hid (HB4.out.trans (O.bel.mono HB4.out.size))
              clear O
              have h9 := HVL.out
              have hne : n5 ≠ 1 := by rw [← hl]; exact HLN.out
              have q1 : ((n5 : Int) == 1) = false := beq_eq_false_iff_ne.2 (by omega)
              have q3 : n5 ≤ 9 := by omega
              clear hl h9 hne
              go_wp2_with fail
              go_roundw
              case rel => exact ⟨2, by omega, by go_num, Lib.hid (past_one (fun h => by have := h.2.2; rw [HN.out, HV.out] at this; exact HLN.out this)), HB5.out⟩
              case measure => simp [intOf]
        · have NOHIT : ¬ Hit1 L p := fun h => by have := h.1; rw [HE.out] at this; omega
          obtain ⟨r1, r2, r3⟩ := take_few (L := L) (at_ := (p : Int)) (size := 1) rfl (by omega) (by rw [HE.out]; omega) (by rw [HE.out]; omega)
          have HT := Lib.hid (rtakeIs (by omega) (by omega) r1 r2 r3)
          clear r1 r2 r3
          go_wp2_with fail
          refine (HT.out _ _ _ _ hm hmc (HL.out.later HB.out)).mono ?_
          rintro e w2 ⟨rfl, hb⟩
          have HB2 := Lib.hid (HB.out.trans (hb.mono HB.out.size))
          clear hb
          go_wp2_with fail
          go_roundw
          case rel => exact ⟨2, by omega, by go_num, Lib.hid (past_one (fun h => NOHIT h)), HB2.out⟩
          case measure => simp [intOf]
      · have no := tv_none HL.out.byt (PA.out.1 (by omega)) (PA.out.2 2 (by omega) (by omega) (by omega)) (PA.out.2 4 (by omega) (by omega) (by omega)) (PA.out.2 8 (by omega) (by omega) (by omega))
        obtain ⟨r1, r2, r3⟩ := tv_no (by rw [HE.out]; omega) no
        have HR : Hid (TvEnd L p w = fun e w' => e = .returned (.tuple #[.int .u64 0, .int .i64 0, .int .i64 5]) ∧ Below w.heap.size w w') := Lib.hid (by funext e w'; unfold TvEnd; rw [r1, r2, r3]; rfl)
        clear r1 r2 r3 no hs
        go_wp2_with fail
        go_ret3
        rw [HR.out]
        exact ⟨rfl, HB.out⟩
      · clear hs
        have hz : sizeB (s : Int) = true := by
          rcases (by have := HS.out; omega : s = 2 ∨ s = 4 ∨ s = 8) with rfl | rfl | rfl <;> rfl
        have t3 : decide ((s : Int) ≤ 8) = true := decide_eq_true (by omega)
        have t4 : decide ((1 : Int) < (s : Int)) = true := decide_eq_true (by omega)
        by_cases hroom : p + 1 + s ≤ m
        · obtain ⟨r1, r2, r3⟩ := take_ok (L := L) (at_ := (p : Int) + 1) (size := (s : Int)) hz (by omega) (by rw [HE.out]; omega)
          rw [show ((p : Int) + 1).toNat = p + 1 by omega, Int.toNat_natCast] at r1
          have hn64 := numAt_64 HL.out.byt (k := s) (p := p + 1) (by omega)
          obtain ⟨n, hn⟩ : ∃ n, numAt L (p + 1) s = n := ⟨_, rfl⟩
          have HN := Lib.hid hn
          rw [hn] at r1 hn64
          have HT := Lib.hid (rtakeIs (by omega) (by omega) r1 r2 r3)
          obtain ⟨V, hV⟩ : ∃ V, varS n = V := ⟨_, rfl⟩
          have HV := Lib.hid hV
          have HVAR := Lib.hid (rvar_vs hn64 hV)
          have hvl : V.length ≤ 9 := by rw [← hV, varS_length]; have := behind_le (first n); omega
          have HVL := Lib.hid hvl
          clear r1 r2 r3 hn hV hvl hn64
          cases hst : startsB L p V with
          | false =>
            have HST := Lib.hid hst
            clear hst
            go_wp2_with fail
            refine (HT.out _ _ _ _ hm hmc (HL.out.later HB.out)).mono ?_
            rintro e w2 ⟨rfl, hb⟩
            have HB2 := Lib.hid (HB.out.trans (hb.mono HB.out.size))
            clear hb
            go_wp2_with fail
            refine (HVAR.out _).mono ?_
            rintro e w3 ⟨A3, n3, c3, rfl, h3, O⟩
            have hl := O.len
            have HB3 := Lib.hid (HB2.out.trans (O.bel.mono HB2.out.size))
            have HR3 := Lib.hid O.reads
            have hn3 : n3 ≤ 9 := by rw [← hl]; exact HVL.out
            clear O hl
            go_wp2_with fail
            refine (starts_b HST.out _ (by omega) (by omega) hp (HL.out.later HB3.out) HR3.out).mono ?_
            rintro e w4 ⟨rfl, hb⟩
            have HB4 := Lib.hid (HB3.out.trans (hb.mono HB3.out.size))
            clear hb
            go_wp2_with fail
            go_roundw
            case rel => exact ⟨2 * s, by have := HS.out; omega, by go_num, Lib.hid (past_next HS.out s1 PA.out (fun h => by have := h.2.1; rw [HN.out, HV.out, HST.out] at this; cases this)), HB4.out⟩
            case measure => simp [intOf]; omega
          | true =>
            have HST := Lib.hid hst
            clear hst
            by_cases hln : V.length = s + 1
            · obtain ⟨k1, k2, k3⟩ := tv_hit HL.out.byt s1 (show Hit L p s from ⟨by rw [HE.out]; omega, by rw [HN.out, HV.out]; exact HST.out, by rw [HN.out, HV.out]; exact hln⟩)
              obtain ⟨r1, r2, r3⟩ := tv_yes k1
              rw [k2, HN.out] at r1
              rw [k3] at r2
              have HR : Hid (TvEnd L p w = fun e w' => e = .returned (.tuple #[.int .u64 (n : Nat), .int .i64 ((p : Int) + 1 + (s : Nat)), .int .i64 0]) ∧ Below w.heap.size w w') := Lib.hid (by funext e w'; unfold TvEnd; rw [r1, r2, r3])
              clear r1 r2 r3 k1 k2 k3
              have HLN := Lib.hid hln
              clear hln
              go_wp2_with fail
              refine (HT.out _ _ _ _ hm hmc (HL.out.later HB.out)).mono ?_
              rintro e w2 ⟨rfl, hb⟩
              have HB2 := Lib.hid (HB.out.trans (hb.mono HB.out.size))
              clear hb
              go_wp2_with fail
              refine (HVAR.out _).mono ?_
              rintro e w3 ⟨A3, n3, c3, rfl, h3, O⟩
              have hl := O.len
              have HB3 := Lib.hid (HB2.out.trans (O.bel.mono HB2.out.size))
              have HR3 := Lib.hid O.reads
              have hn3 : n3 ≤ 9 := by rw [← hl]; exact HVL.out
              clear O hl
              go_wp2_with fail
              refine (starts_b HST.out _ (by omega) (by omega) hp (HL.out.later HB3.out) HR3.out).mono ?_
              rintro e w4 ⟨rfl, hb⟩
              have HB4 := Lib.hid (HB3.out.trans (hb.mono HB3.out.size))
              clear hb
              go_wp2_with fail
              refine (HVAR.out _).mono ?_
              rintro e w5 ⟨A5, n5, c5, rfl, h5, O⟩
              have hl := O.len
              have HB5 := Lib.hid (HB4.out.trans (O.bel.mono HB4.out.size))
              clear O
              rw [HLN.out] at hl
              obtain rfl := hl
              go_wp2_with fail
              go_ret3
              rw [HR.out]
              exact ⟨by first | rfl | (simp; done) | (simp; omega), HB5.out⟩
            · have hln2 := hln
              have HLN := Lib.hid hln
              clear hln hln2
              go_wp2_with fail
              refine (HT.out _ _ _ _ hm hmc (HL.out.later HB.out)).mono ?_
              rintro e w2 ⟨rfl, hb⟩
              have HB2 := Lib.hid (HB.out.trans (hb.mono HB.out.size))
              clear hb
              go_wp2_with fail
              refine (HVAR.out _).mono ?_
              rintro e w3 ⟨A3, n3, c3, rfl, h3, O⟩
              have hl := O.len
              have HB3 := Lib.hid (HB2.out.trans (O.bel.mono HB2.out.size))
              have HR3 := Lib.hid O.reads
              have hn3 : n3 ≤ 9 := by rw [← hl]; exact HVL.out
              clear O hl
              go_wp2_with fail
              refine (starts_b HST.out _ (by omega) (by omega) hp (HL.out.later HB3.out) HR3.out).mono ?_
              rintro e w4 ⟨rfl, hb⟩
              have HB4 := Lib.hid (HB3.out.trans (hb.mono HB3.out.size))
              clear hb
              go_wp2_with fail
              refine (HVAR.out _).mono ?_
              rintro e w5 ⟨A5, n5, c5, rfl, h5, O⟩
              have hl := O.len
              have HB5 := Lib.hid (HB4.out.trans (O.bel.mono HB4.out.size))
              clear O
              have h9 := HVL.out
              have hne : n5 ≠ s + 1 := by rw [← hl]; exact HLN.out
              have q1 : ((n5 : Int) == (s : Int) + ((p : Int) + 1) - (p : Int)) = false := beq_eq_false_iff_ne.2 (by omega)
              have q3 : n5 ≤ 9 := by omega
              clear hl h9 hne
              go_wp2_with fail
              go_roundw
              case rel => exact ⟨2 * s, by have := HS.out; omega, by go_num, Lib.hid (past_next HS.out s1 PA.out (fun h => by have := h.2.2; rw [HN.out, HV.out] at this; exact HLN.out this)), HB5.out⟩
              case measure => simp [intOf]; omega
        · have NOHIT : ¬ Hit L p s := fun h => by have := h.1; rw [HE.out] at this; omega
          by_cases hlt : p < m
          · obtain ⟨r1, r2, r3⟩ := take_few (L := L) (at_ := (p : Int) + 1) (size := (s : Int)) hz (by omega) (by rw [HE.out]; omega) (by rw [HE.out]; omega)
            have HT := Lib.hid (rtakeIs (by omega) (by omega) r1 r2 r3)
            clear r1 r2 r3
            go_wp2_with fail
            refine (HT.out _ _ _ _ hm hmc (HL.out.later HB.out)).mono ?_
            rintro e w2 ⟨rfl, hb⟩
            have HB2 := Lib.hid (HB.out.trans (hb.mono HB.out.size))
            clear hb
            go_wp2_with fail
            go_roundw
            case rel => exact ⟨2 * s, by have := HS.out; omega, by go_num, Lib.hid (past_next HS.out s1 PA.out NOHIT), HB2.out⟩
            case measure => simp [intOf]; omega
          · obtain ⟨r1, r2, r3⟩ := take_few (L := L) (at_ := (m : Int)) (size := (s : Int)) hz (by omega) (by rw [HE.out]; omega) (by rw [HE.out]; omega)
            have HT := Lib.hid (rtakeIs (by omega) (by omega) r1 r2 r3)
            clear r1 r2 r3
            go_wp2_with fail
            refine (HT.out _ _ _ _ hm hmc (HL.out.later HB.out)).mono ?_
            rintro e w2 ⟨rfl, hb⟩
            have HB2 := Lib.hid (HB.out.trans (hb.mono HB.out.size))
            clear hb
            go_wp2_with fail
            go_roundw
            case rel => exact ⟨2 * s, by have := HS.out; omega, by go_num, Lib.hid (past_next HS.out s1 PA.out NOHIT), HB2.out⟩
            case measure => simp [intOf]; omega
end Go.Proofs.Ytcnmplkljpkheaa
