/- A vault's frames told one by one. No condition but bounds on the lengths. -/
import Derived.Test.YtjcphpmlekfhdaaGreatDoorGf
namespace Go.Proofs.YtjcphpmlekfhdaaGreatDoor
open Go.RowKit Go.Shelf
attribute [local go_sem] Oper.semAt_some

set_option maxRecDepth 100000 in
set_option maxHeartbeats 40000000 in
theorem whole1_in (l Bx Gx : Nat) (g : Nat) (A : Option Addr) (len cap : Nat) (L : List Nat) (hg : g < 18446744073709551616) (hcap : len ≤ cap) (hreach : cap ≤ 9223372036854775807) (hlen : len ≤ 549755813888) (J Jx : List Tr → World → Prop) (Q : Nat → Prop)
    (hQB : Q Bx) (hQG : Q Gx) (hQ0 : Q 0) (hQ1 : Q 1) (hG : Gx ≠ Bx) (hB : 2 ≤ Bx) (hQA : 0 < len → ∀ a, A = some a → Q a.block ∧ a.block ≠ Bx)
    (hT : ∀ s X Y, J s X → Tw Bx X Y → J s Y)
    (hY : ∀ pre x W, J pre W → TellsR g A cap L (pre ++ [x]) → YieldAt Fence.wide 1 Tryz.prog l (trV x) W fun e W' =>
      (e = .returned (.bool true) ∧ J (pre ++ [x]) W' ∧ Kq Q W W') ∨ (e = .returned (.bool false) ∧ Jx (pre ++ [x]) W'))
    (W : World) (hBx : Boxed W Bx 40 (.slice A len cap)) (hGx : Boxed W Gx 49 (.int .u64 (g : Nat))) (hL : Bs W A len L) (hLd : Laid W) (h0 : J [] W) :
    CallsIn Fence.wide 2 Tryz.prog 97 #[.func (.yield l) #[] #[], .pointer (some ⟨Bx, 0, none⟩), .pointer (some ⟨Gx, 0, none⟩)] W fun e W' => (∃ v, e = .returned v) ∧
      ((∃ ys, AllR g A cap L ys ∧ J ys W') ∨ (∃ pre, TellsR g A cap L pre ∧ Jx pre W')) := by
  refine callsIn_of_wp Tryz.func97 rfl trivial ?_ rfl
  simp only [Tryz.ntmps97, List.size_toArray, List.length_cons, List.length_nil, Nat.reduceAdd, Nat.reduceSub, Array.replicate_succ, Array.replicate_zero, List.push_toArray, List.append_toArray, List.nil_append, List.cons_append]
  have HL := Lib.hid hL
  have HLd := Lib.hid hLd
  clear hL hLd
  gi_wp2
  gi_loopw [4, 5, 6] (fun kv _ _ wr => ∃ pre p f A', kv = .int .i64 (pre.length : Nat) ∧ WAt g A len cap Bx Gx L J wr pre p f A') (fun _ _ _ wr => match wr.cell? ⟨Bx, 0, none⟩ with | some (.slice _ m _) => m | _ => 0)
  case atStart => exact ⟨[], 0, len + 1, A, rfl, ⟨by unfold recsS; rw [List.map_nil, List.nil_append, List.drop_zero]; exact wholeS_fuel g _ _ _ _ (by rw [HL.out.len]; omega) (Nat.le_refl _), fun x hx => absurd hx List.not_mem_nil, Nat.zero_le _, Nat.le_refl _, by omega, fun _ => by cases A <;> rfl, fun a e => ⟨a, e, rfl⟩, h0, hBx, hGx, HL.out, HLd.out⟩⟩
  case round =>
    obtain ⟨pre, p, f, A', rfl, H⟩ := hrel
    have hbx := H.box.cell
    have hbf := H.box.frozen
    have hp := H.le
    have hfu := H.fu
    have hmn := H.many
    obtain ⟨f, rfl⟩ : ∃ g, f = g + 1 := ⟨f - 1, by omega⟩
    have HH := Lib.hid H
    have R := Lib.hid (H.reads hcap)
    have hlR := (H.reads hcap).len
    obtain ⟨S, hS⟩ : ∃ S, L.drop p = S := ⟨_, rfl⟩
    obtain ⟨m, hm⟩ : ∃ m, len - p = m := ⟨_, rfl⟩
    obtain ⟨q, hq⟩ : ∃ q, cap - p = q := ⟨_, rfl⟩
    obtain ⟨k, hk⟩ : ∃ k, pre.length = k := ⟨_, rfl⟩
    have HS := Lib.hid hS
    have HM := Lib.hid hm
    have HQ := Lib.hid hq
    have HK := Lib.hid hk
    have hmq : m ≤ q := by omega
    have hq63 : q ≤ 9223372036854775807 := by omega
    have hm39 : m ≤ 549755813888 := by omega
    have hk39 : k ≤ 549755813888 := by omega
    rw [hS] at R hlR
    rw [hm] at R hlR hbx
    rw [hq] at hbx
    rw [hk]
    -- what ends it
    have fin : ∀ W', Tw Bx wr W' → firstS g k S = none → ((∃ ys, AllR g A cap L ys ∧ J ys W') ∨ (∃ pre, TellsR g A cap L pre ∧ Jx pre W')) := fun W' ht hn => by
      have ha := HH.out.all
      rw [HS.out, HK.out, wholeS, hn, List.append_nil] at ha
      exact .inl ⟨pre, ⟨ha, HH.out.ok⟩, hT _ _ _ HH.out.inv ht⟩
    have FIN := Lib.hid fin
    clear H fin hp hfu hmn hS hm hq hk
    by_cases h36 : m < 36
    · have t1 : decide ((36 : Int) ≤ (m : Int)) = false := decide_eq_false (by omega)
      have hn : firstS g k S = none := by unfold firstS; rw [if_pos (by omega)]
      gi_wp2
      refine bodyPost_end (results_none rfl _ _ _) rfl ?_
      exact ⟨⟨_, rfl⟩, FIN.out _ (Tw.of (Below.refl _ _)) hn⟩
    have t1 : decide ((36 : Int) ≤ (m : Int)) = true := decide_eq_true (by omega)
    have hl4 : (4 : Int) ≤ (q : Int) := by omega
    have hS4 : (S.take 4).length = 4 := by rw [List.length_take]; omega
    have hN : num (S.take 4) < 4294967296 := by
      have := num_lt (L := S.take 4) (fun x hx => R.out.byt x (List.mem_of_mem_take hx))
      rw [hS4] at this
      exact this
    have R4 : Bs wr A' 4 (S.take 4) := (show Bs wr A' m (S.take 4 ++ S.drop 4) by rw [List.take_append_drop]; exact R.out).head hS4
    have NO := Lib.hid (numberOf_any (c := q) wr (by decide) R4 (fun a e => by
      obtain ⟨a', e', hb, _⟩ := R4.cel (by decide)
      rw [e] at e'
      injection e' with e'
      rw [e']
      exact hb))
    obtain ⟨N, hNe⟩ : ∃ N, num (S.take 4) = N := ⟨_, rfl⟩
    rw [hNe] at NO hN
    have HNE := Lib.hid hNe
    have HL4 := Lib.hid hlR
    clear R4 hNe hS4 hlR
    by_cases hbig : 32768 < N
    · have t2 : decide ((32768 : Int) < (N : Int)) = true := decide_eq_true (by omega)
      have hn : firstS g k S = none := by unfold firstS; rw [if_neg (by have := HL4.out; omega), HNE.out, if_pos (.inl hbig)]
      have HN := Lib.hid hn
      clear hn
      gi_wp2_with (refine ⟨trivial, ?_⟩; gi_at_call 69; refine (callsIn_wide.2 NO.out).mono ?_; rintro e w2 ⟨rfl, b2⟩)
      refine bodyPost_ret (results_none rfl _ _ _) rfl ?_
      exact ⟨⟨_, rfl⟩, FIN.out _ (Tw.of b2) HN.out⟩
    have t2 : decide ((32768 : Int) < (N : Int)) = false := decide_eq_false (by omega)
    obtain ⟨y, rfl⟩ : ∃ y, m = y + 36 := ⟨m - 36, by omega⟩
    have fb : ∀ w2 : World, Below wr.heap.size wr w2 → Boxed w2 Bx 40 (.slice A' (y + 36) q) := fun w2 b2 => by
      have := (b2.block Bx (Array.getElem?_eq_some_iff.1 HH.out.box).1).trans HH.out.box
      rw [HM.out, HQ.out] at this
      exact this
    have FB := Lib.hid fb
    clear fb
    by_cases hfit : y < N
    · have t3 : decide ((y : Int) < (N : Int)) = true := decide_eq_true (by omega)
      have hn : firstS g k S = none := by unfold firstS; rw [if_neg (by have := HL4.out; omega), HNE.out, if_pos (.inr (by have := HL4.out; omega))]
      have HN := Lib.hid hn
      clear hn
      gi_wp2_with (refine ⟨trivial, ?_⟩; gi_at_call 69; refine (callsIn_wide.2 NO.out).mono ?_; rintro e w2 ⟨rfl, b2⟩; have hbx2 := (FB.out w2 b2).cell; have hbf2 := (FB.out w2 b2).frozen)
      refine bodyPost_ret (results_none rfl _ _ _) rfl ?_
      exact ⟨⟨_, rfl⟩, FIN.out _ (Tw.of b2) HN.out⟩
    have t3 : decide ((y : Int) < (N : Int)) = false := decide_eq_false (by omega)
    obtain ⟨e, hE⟩ : ∃ e, 4 + N = e := ⟨_, rfl⟩
    have he : (4 : Int) + (N : Int) = (e : Int) := by omega
    have he1 : e + 32 ≤ q := by omega
    have he2 : ¬ q = e := by omega
    have he3 : e ≤ q := by omega
    have he4 : e ≤ 32772 := by omega
    obtain ⟨z, hZ⟩ : ∃ z, e + 32 = z := ⟨_, rfl⟩
    have hwz : IntKind.i64.wrap ((e : Int) + 32) = (z : Int) := by
      rw [IntKind.wrap_i64]; omega
    have hz0 : z ≤ q := by omega
    have hz1 : (z : Int) ≤ (q : Int) := by omega
    have hz2 : e ≤ z := by omega
    have hz3 : z - e = 32 := by omega
    have he5 : e - 4 = N := by omega
    have he6 : 4 ≤ e := by omega
    have HZ := Lib.hid hZ
    clear hZ he1
    have HE := Lib.hid hE
    clear hE
    gi_wp2_with (refine ⟨trivial, ?_⟩; gi_at_call 69; refine (callsIn_wide.2 NO.out).mono ?_; rintro e w2 ⟨rfl, b2⟩; have hbx2 := (FB.out w2 b2).cell; have hbf2 := (FB.out w2 b2).frozen; have B2 := Lib.hid b2; clear b2)
    have gn2 : Boxed w2 Gx 49 (.int .u64 (g : Nat)) := (B2.out.block Gx (Array.getElem?_eq_some_iff.1 HH.out.gen).1).trans HH.out.gen
    have hgx2 := gn2.cell
    have hSe : (S.take e).length = e := by rw [List.length_take]; have := HL4.out; have := HE.out; omega
    have Re : Bs w2 A' e (S.take e) := (show Bs w2 A' (y + 36) (S.take e ++ S.drop e) by rw [List.take_append_drop]; exact R.out.later B2.out).head hSe
    have CF := Lib.hid (frameCheck_any (g := g) (k := k) (c := q) w2.drew (HH.out.laid.later HH.out.laid.lt B2.out.drew) hg (by omega) (Re.later (Below.refl _ _).drew) (by have := HE.out; omega) he3 hq63)
    have Rc : Bs w2 (A'.map fun a => a.add e) 32 ((S.drop e).take 32) := by
      have := HH.out.part hcap (k := e) (m := 32) (by rw [HM.out]; have := HE.out; omega) (by decide)
      rw [HS.out] at this
      exact this.later B2.out
    have RC := Lib.hid Rc
    have GN2 := Lib.hid gn2
    clear hSe Re Rc gn2
    by_cases heq : fchkS g k (S.take e) = (S.drop e).take 32
    · have hd : decide (fchkS g k (S.take e) = (S.drop e).take 32) = true := decide_eq_true heq
      have HD := Lib.hid hd
      obtain ⟨r, hr⟩ : ∃ r, (S.drop 4).take N = r := ⟨_, rfl⟩
      have hrl : r.length = N := by rw [← hr, List.length_take, List.length_drop]; have := HL4.out; omega
      have hf : firstS g k S = some r := by unfold firstS; rw [if_neg (by have := HL4.out; omega), HNE.out, if_neg (by have := HL4.out; omega), HE.out, if_pos heq, hr]
      have hf' : firstS g pre.length (L.drop p) = some r := by rw [HS.out, HK.out]; exact hf
      have hT1 : TellsR g A cap L (pre ++ [(A'.map fun x => { block := x.block, off := x.off + 4 }, q - 4, r)]) := HH.out.tells hf' (by rw [HM.out]; omega) (by rw [HM.out]; omega) hcap rfl (by rw [HQ.out])
      have HT1 := Lib.hid hT1
      have HF := Lib.hid hf'
      have HRL := Lib.hid hrl
      have YY : ∀ w3, Below w2.heap.size w2 w3 → YieldAt Fence.wide 1 Tryz.prog l #[.slice (A'.map fun x => { block := x.block, off := x.off + 4 }) N (q - 4)] w3 fun e W' => ∃ b, e = .returned (.bool b) ∧ ((b = true ∧ J (pre ++ [(A'.map fun x => { block := x.block, off := x.off + 4 }, q - 4, r)]) W' ∧ Kq Q w3 W') ∨ (b = false ∧ Jx (pre ++ [(A'.map fun x => { block := x.block, off := x.off + 4 }, q - 4, r)]) W')) := fun w3 b3 => by
        have := hY pre _ w3 (hT _ _ _ HH.out.inv (Tw.of (B2.out.trans (b3.mono B2.out.size)))) hT1
        unfold trV at this
        dsimp only at this
        rw [hrl] at this
        refine this.mono ?_
        rintro e W' (⟨rfl, h1, h2⟩ | ⟨rfl, h1⟩)
        · exact ⟨true, rfl, .inl ⟨rfl, h1, h2⟩⟩
        · exact ⟨false, rfl, .inr ⟨rfl, h1⟩⟩
      have HYY := Lib.hid YY
      have fn : ∀ w3 W3, Below w2.heap.size w2 w3 → Kq Q w3 W3 → Boxed W3 Bx 40 (.slice A' (y + 36) q) ∧ Boxed W3 Gx 49 (.int .u64 (g : Nat)) ∧ Bs W3 A len L ∧ Laid W3 := fun w3 W3 b3 hkq => by
        have b := B2.out.trans (b3.mono B2.out.size)
        have ld := HLd.out
        refine ⟨(hkq Bx hQB).trans (FB.out w3 b), (hkq Gx hQG).trans ((b3.block Gx (Array.getElem?_eq_some_iff.1 GN2.out).1).trans GN2.out), (HH.out.rd.later b).kept fun hn a e => hkq a.block (hQA hn a e).1, ?_⟩
        exact (HH.out.laid.later HH.out.laid.lt b).kept (hkq 0 hQ0) (hkq 1 hQ1)
      have FN := Lib.hid fn
      have HQA := Lib.hid (show True ∧ (0 < len → ∀ a, A = some a → a.block ≠ Bx) from ⟨trivial, fun hn a e => (hQA hn a e).2⟩)
      have HT := Lib.hid hT
      obtain ⟨F, hF⟩ : ∃ F, fchkS g k (S.take e) = F := ⟨_, rfl⟩
      rw [hF] at CF HD
      clear heq hd hF hr hrl hf hf' hT1 YY fn hQA hQB hQG hQ0 hQ1 hBx hGx h0 HL HLd GN2 HNE HL4 R NO hT hY HS FIN
      first
        | gi_region_with (
        first
          | (refine ⟨trivial, ?_⟩; gi_at_call 98; refine (callsIn_wide.2 CF.out).mono ?_; rintro e w3 ⟨A3, n3, c3, rfl, _, _, r3, b30⟩; have b3 : Below w2.heap.size w2 w3 := (Below.refl _ _).drew.trans b30; have hbx3 := (FB.out w3 (B2.out.trans (b3.mono B2.out.size))).cell; clear b30; obtain ⟨fn, tmps, assign, body, hy, hR⟩ := HYY.out w3 b3)
          | (refine ⟨trivial, ?_⟩; gi_at_call 70; refine (callsIn_wide.2 (bytesEqual_any _ (by assumption) (RC.out.later (by assumption)))).mono ?_; rintro e w4 ⟨rfl, rfl⟩; rw [HD.out])
          | (refine hR.mono ?_; rintro e W3 ⟨b, rfl, hz⟩)
          | (refine ⟨fun f h => (by cases h), ?_⟩; refine hR.mono ?_; rintro e W3 ⟨b, rfl, hz⟩)
          | refine ⟨fun f h => (by cases h), ?_⟩)
        | fail "no way"
      all_goals (
        rcases hz with ⟨rfl, hJ3, hkq⟩ | ⟨rfl, hJx3⟩
        · obtain ⟨bx3, gn3, rd3, ld3⟩ := FN.out _ W3 b3 hkq
          have bc3 := bx3.cell
          have bf3 := bx3.frozen
          have BX3 := Lib.hid bx3
          have key : ∀ (A'' : Option Addr) (m' z' : Nat), ((q ≤ z ∧ A'' = A') ∨ (z < q ∧ A'' = A'.map fun a => a.add z)) → m' = y + 36 - z → z' = q - z →
              (∃ pre' p' f' A3', Value.int .i64 ((k : Int) + 1) = .int .i64 (pre'.length : Nat) ∧ WAt g A len cap Bx Gx L J (W3.setCell ⟨Bx, 0, none⟩ (.slice A'' m' z')) pre' p' f' A3') ∧
              (W3.setCell ⟨Bx, 0, none⟩ (.slice A'' m' z')).cell? ⟨Bx, 0, none⟩ = some (.slice A'' m' z') := fun A'' m' z' hA hm hz' => by
            have e1 : 36 + N = z := by have := HE.out; have := HZ.out; omega
            refine ⟨⟨_, _, _, _, ?_, HH.out.next HF.out (by rw [HM.out, HRL.out]; omega) hcap rfl HT1.out (by rw [HQ.out, HRL.out, e1]; exact hA) (by rw [HM.out, HRL.out, e1]; exact hm) (by rw [HQ.out, HRL.out, e1]; exact hz') HQA.out.2 hG hB BX3.out gn3 rd3 ld3 (HT.out _ _ _ hJ3 (Tw.set _ _ _))⟩, (BX3.out.set _).cell⟩
            rw [List.length_append, List.length_singleton, HK.out, Int.natCast_add]
            rfl
          have KEY := Lib.hid key
          clear key bx3 gn3 rd3 ld3 hJ3 hkq hy hR r3
          by_cases hqz : q = z
          · subst hqz
            gi_wp2
            obtain ⟨k1, k2⟩ := KEY.out A' 0 0 (.inl ⟨Nat.le_refl _, rfl⟩) (by omega) (by omega)
            refine ⟨k1, ?_⟩
            rw [k2, hbx]
            show 0 < y + 36
            omega
          · gi_wp2
            obtain ⟨k1, k2⟩ := KEY.out (A'.map fun a => a.add z) (y + 36 - z) (q - z) (.inr ⟨by omega, rfl⟩) rfl rfl
            refine ⟨k1, ?_⟩
            rw [k2, hbx]
            show y + 36 - z < y + 36
            omega
        · gi_wp2
          refine bodyPost_ret (results_none rfl _ _ _) rfl ?_
          exact ⟨⟨_, rfl⟩, .inr ⟨_, HT1.out, hJx3⟩⟩)
    · have hd : decide (fchkS g k (S.take e) = (S.drop e).take 32) = false := decide_eq_false heq
      have HD := Lib.hid hd
      have hn : firstS g k S = none := by unfold firstS; rw [if_neg (by have := HL4.out; omega), HNE.out, if_neg (by have := HL4.out; omega), HE.out, if_neg heq]
      have HN := Lib.hid hn
      obtain ⟨F, hF⟩ : ∃ F, fchkS g k (S.take e) = F := ⟨_, rfl⟩
      rw [hF] at CF HD
      clear heq hd hn hF hQA hQB hQG hQ0 hQ1 hG hB hBx hGx h0 HL HLd GN2 HNE HL4 R NO hT hY HH HM HQ HS HK
      first
        | gi_region_with (
        first
          | (refine ⟨trivial, ?_⟩; gi_at_call 98; refine (callsIn_wide.2 CF.out).mono ?_; rintro e w3 ⟨A3, n3, c3, rfl, _, _, r3, b30⟩; have b3 : Below w2.heap.size w2 w3 := (Below.refl _ _).drew.trans b30; have hbx3 := (FB.out w3 (B2.out.trans (b3.mono B2.out.size))).cell; clear b30)
          | (refine ⟨trivial, ?_⟩; gi_at_call 70; refine (callsIn_wide.2 (bytesEqual_any _ (by assumption) (RC.out.later (by assumption)))).mono ?_; rintro e w4 ⟨rfl, rfl⟩; rw [HD.out])
          | exact ⟨fun f h => (by cases h), (by assumption)⟩
          | refine ⟨fun f h => (by cases h), ?_⟩)
        | fail "no way"
      all_goals gi_wp2
      all_goals (refine bodyPost_ret (results_none rfl _ _ _) rfl ?_; exact ⟨⟨_, rfl⟩, FIN.out _ (Tw.of (B2.out.trans (Below.mono (by assumption) B2.out.size))) HN.out⟩)
end Go.Proofs.YtjcphpmlekfhdaaGreatDoor
