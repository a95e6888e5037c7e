/- lose: so many units made sure, the others lost. No condition but bounds. -/
import Derived.Test.YtgnomopiofpknaaWr1
namespace Go.Proofs.Ytgnomopiofpknaa
open Go.RowKit

theorem unW (A : Option Addr) (n c : Nat) (w : World) : (method 206 80 (.agg #[.slice A n c]) "scantling/disk.units").run Try.prog w = .ok (62, .agg #[.slice A n c]) w := by kernel_rfl
theorem unC (k : Int) (w : World) : (method 206 85 (.agg #[.int .i64 k]) "scantling/disk.units").run Try.prog w = .ok (65, .agg #[.int .i64 k]) w := by kernel_rfl
theorem fiW (A : Option Addr) (n c : Nat) (w : World) : (method 206 80 (.agg #[.slice A n c]) "scantling/disk.first").run Try.prog w = .ok (61, .agg #[.slice A n c]) w := by kernel_rfl
theorem fiC (k : Int) (w : World) : (method 206 85 (.agg #[.int .i64 k]) "scantling/disk.first").run Try.prog w = .ok (64, .agg #[.int .i64 k]) w := by kernel_rfl

/-- What the rounds hand on: k changes stay whole. -/
structure LoseAt (w0 : World) (P : Nat → Prop) (w : World) (d : Nat) (T : TypeId) (cur : List Value) (vs vl : Value) (S : Fl) (kept : Int) (k : Nat) (q : Int) (wr : World) : Prop where
  fl : FlAt w0 (Gr P w wr) vs vl S wr
  ro : Ro wr d T cur
  bel : Below w.heap.size w wr
  so : loseL kept S.loose = S.loose.take k ++ loseL q (S.loose.drop k)
  lo : -9223372036854775808 ≤ q ∧ q ≤ 9223372036854775807
theorem LoseAt.start {w0 w : World} {P : Nat → Prop} {vs vl : Value} {S : Fl} {d : Nat} {T : TypeId} {cur : List Value} {kept : Int} (F : FlAt w0 P vs vl S w) (R : Ro w d T cur) (h : -9223372036854775808 ≤ kept ∧ kept ≤ 9223372036854775807) : LoseAt w0 P w d T cur vs vl S kept 0 kept w :=
  ⟨F.more (fun k h => .inl h) (Gr.lt F F.sure.bel (Nat.le_refl _)), R, Below.refl _ _, by simp, h⟩

theorem nth_take {L : List Nat} {u j : Nat} (h : j < u) : nth (L.take u) j = nth L j := by simp [nth, List.getD, h]
def appC (args : Array Value) : Sem Value := Builtin.append_ #[55, 55] 55 args
theorem appC_mark (args : Array Value) : Builtin.append_ #[55, 55] 55 args = appC args := rfl
attribute [local go_sem ↓] appC_mark

/-- Behind the loop. -/
def LoseEx (w0 : World) (P : Nat → Prop) (w : World) (d o : Nat) (T : TypeId) (cur : List Value) (vs : Value) (S : Fl) (kept : Int) (W : World) : Prop :=
  ∃ vl, FlAt w0 (Gr P w W) vs vl ⟨S.sure, loseL kept S.loose⟩ W ∧ Ro W d T (cur.set (o + 1) vl) ∧ Kept (fun b => ¬ P b ∧ b ≠ d) w W
theorem FlAt.short {w0 w : World} {P : Nat → Prop} {vs : Value} {A : Option Addr} {n c : Nat} {S : Fl} (F : FlAt w0 P vs (.slice A S.loose.length c) S w) (hn : S.loose.length = n) {k : Nat} (hk : k ≤ n) : FlAt w0 P vs (.slice A k c) ⟨S.sure, S.loose.take k⟩ w := by
  have e : (Value.slice A k c).ownBlock = (Value.slice A S.loose.length c).ownBlock := by cases A <;> rfl
  have h := F.loose.short (k := k) (by omega)
  have hl : (S.loose.take k).length = k := by rw [List.length_take]; omega
  exact ⟨F.sure, by rw [hl]; exact h, F.ps, fun q h => F.pl q (by rw [← e]; exact h), F.lt⟩
theorem lose_len : ∀ (l : List Chg) (k : Int), (loseL k l).length ≤ l.length
  | [], _ => Nat.le_refl _
  | c :: l, k => by
    unfold loseL
    split
    · simp
    · have := lose_len l (k - units c)
      simp only [List.length_cons]
      omega
section
variable {w0 w wr : World} {P : Nat → Prop} {vs vl : Value} {S : Fl} {d o : Nat} {T : TypeId} {cur : List Value} {kept z : Int} {k g c : Nat} {x : Chg}
theorem LoseAt.next (J : LoseAt w0 P w d T cur vs vl S kept k z wr) (hx : S.loose[k]? = some x) (hz : ¬ z < (units x : Int)) {w2 : World} (b : Below wr.heap.size wr w2) : LoseAt w0 P w d T cur vs vl S kept (k + 1) (z - units x) w2 := by
  have hlt := (List.getElem?_eq_some_iff.1 hx).1
  have hs := J.bel.size
  refine ⟨(J.fl.grow b).step hs b.size, J.ro.later b, J.bel.trans (b.mono hs), ?_, ?_⟩
  · rw [J.so, List.take_add_one, hx, List.append_assoc]
    congr 1
    rw [List.drop_eq_getElem_cons hlt]
    have : S.loose[k] = x := by simpa [hlt] using hx
    rw [this]
    conv => lhs; unfold loseL
    rw [if_neg hz]
    rfl
  · have := J.lo
    omega
theorem LoseAt.ends (J : LoseAt w0 P w d T cur vs vl S kept k z wr) (hk : S.loose.length ≤ k) (c1 : cur[o + 1]? = some vl) : LoseEx w0 P w d o T cur vs S kept wr := by
  have e : loseL kept S.loose = S.loose := by
    rw [J.so, List.take_of_length_le hk, List.drop_eq_nil_of_le hk]
    simp [loseL]
  refine ⟨vl, by rw [e]; exact J.fl, by rw [set_same c1]; exact J.ro, J.bel.size, fun b _ hl => J.bel.block b hl⟩
set_option maxHeartbeats 1000000 in
theorem LoseAt.last (J : LoseAt w0 P w d T cur vs (.slice (some ⟨g, 0, none⟩) S.loose.length c) S kept k z wr) (hd : ¬ P d) (hw : w0.heap.size ≤ d) (hdl : d < w.heap.size) (c1 : cur[o + 1]? = some (.slice (some ⟨g, 0, none⟩) S.loose.length c)) (hx : S.loose[k]? = some x) (hz : z < (units x : Int)) (hn : S.loose.length ≤ 1073741823)
    {w2 : World} (b : Below wr.heap.size wr w2) {ty : TypeId} {u : Value} (hV : ChgR w2 (fun b => Gr P w wr b ∧ some b ≠ vs.ownBlock ∧ some b ≠ (Value.slice (some ⟨g, 0, none⟩) S.loose.length c).ownBlock) [.iface ty u] (firstC (max z 0).toNat x)) :
    ∃ A' c' w4, (appC #[.slice (some ⟨g, 0, none⟩) k c, .slice (some ⟨w2.heap.size, 0, none⟩) 1 1]).run Try.prog (w2.alloc (.cells #[.iface ty u] 83)) = .ok (.slice A' (k + 1) c') w4 ∧
      w4.cell? ⟨d, o + 1, none⟩ = some (.slice (some ⟨g, 0, none⟩) S.loose.length c) ∧ w4.frozen? ⟨d, o + 1, none⟩ = false ∧ Hid (LoseEx w0 P w d o T cur vs S kept (w4.setCell ⟨d, o + 1, none⟩ (.slice A' (k + 1) c'))) := by
  have hlt := (List.getElem?_eq_some_iff.1 hx).1
  have hs := J.bel.size
  obtain ⟨w3, hw3⟩ : ∃ w3, w2.alloc (.cells #[.iface ty u] 83) = w3 := ⟨_, rfl⟩
  have b3 : Below w2.heap.size w2 w3 := by rw [← hw3]; exact (Below.refl _ _).alloc (Nat.le_refl _) _
  have bb : Below wr.heap.size wr w3 := b.trans (b3.mono b.size)
  have F3 := (J.fl.grow bb).step hs bb.size
  have R3 := J.ro.later bb
  have F4 := F3.short rfl (Nat.le_of_lt hlt)
  have eo : (Value.slice (some ⟨g, 0, none⟩) k c).ownBlock = (Value.slice (some ⟨g, 0, none⟩) S.loose.length c).ownBlock := rfl
  have hl : (S.loose.take k).length = k := by rw [List.length_take]; omega
  have OL := F4.loose
  simp only [hl] at OL
  have hV3 := chgM.keep hV (Kept.of_below b3)
  have hrow : w3.rangeAt w2.heap.size 0 [.iface ty u] := by
    rw [← hw3]
    intro j q hj
    have := (Ro.new w2 83 [.iface ty u]).cell (k := j) hj
    rwa [Nat.zero_add]
  obtain ⟨A', c', w4, r1, r2, r3, r4, r5⟩ := run_appRw (c := 1) (m := 1) (k := [firstC (max z 0).toNat x]) (cs := [.iface ty u]) elemChg chgM 55 OL rfl (fun _ => ⟨_, _, rfl, hrow⟩)
    (Each.one rfl (chgM.weak hV3 fun q hq hl2 => ⟨⟨by
      rcases hq.1 with h | h
      · exact .inl h
      · exact .inr ⟨h.1, by have := bb.size; omega⟩, hq.2.1⟩, hq.2.2, hl2⟩)) (fun q hq => by simp at hq; rw [hq]; rfl) (by omega) (by omega)
  rw [eo] at r3 r5
  have nd : some d ≠ (Value.slice (some ⟨g, 0, none⟩) S.loose.length c).ownBlock := fun e => Gr.not hd hdl (F3.pl d e.symm).1
  have R4 := R3.far r3 nd
  have F5 := F4.added (x := firstC (max z 0).toNat x) r3 (by
    rcases r5 with q | q
    · exact .inl q
    · refine .inr fun y e => ?_
      rw [q] at e
      injection e with e
      omega) r2
  have F6 := F5.step (Nat.le_trans hs bb.size) r3.size
  have es : (⟨S.sure, S.loose.take k⟩ : Fl).add (firstC (max z 0).toNat x) = ⟨S.sure, loseL kept S.loose⟩ := by
    unfold Fl.add
    rw [J.so, List.drop_eq_getElem_cons hlt]
    have : S.loose[k] = x := by simpa [hlt] using hx
    rw [this]
    congr 2
    unfold loseL
    rw [if_pos hz]
  rw [es] at F6
  refine ⟨A', c', w4, by rw [hw3]; exact r1, R4.cell c1, R4.free _, Lib.hid ⟨_, F6.set hd hdl hw _ _, R4.set _ _, ?_⟩⟩
  refine kept_step ⟨by have := r3.size; have := bb.size; omega, fun y hy hyl => ?_⟩ _ _
  rw [r3.block y (by have := bb.size; omega) (fun e => by
    rcases (F3.pl y e.symm).1 with h | h
    · exact hy.1 h
    · omega), bb.block y (by omega), J.bel.block y hyl]
end
theorem set_swap {cur : List Value} {o : Nat} {a b c : Value} : ((cur.set (o + 1) a).set o b).set (o + 1) c = (cur.set o b).set (o + 1) c := by
  rw [List.set_comm _ _ (show o + 1 ≠ o by omega), List.set_set]
theorem settle_ex {w0 w wr : World} {P : Nat → Prop} {vs : Value} {S : Fl} {d o : Nat} {T : TypeId} {cur : List Value} {kept : Int} (E : LoseEx w0 P w d o T cur vs S kept wr) (hd : ¬ P d) (hw : w0.heap.size ≤ d) (hdl : d < w.heap.size) (c0 : cur[o]? = some vs) (hl : o + 2 < cur.length)
    (hf : Fits 4194304 S.sure S.loose) (hn : S.loose.length ≤ 1073741823) :
    Calls Try.prog 34 #[.pointer (some ⟨d, o, none⟩)] wr fun e W => e = .returned (.tuple #[]) ∧ Fil w0 P w d o T cur (S.lose kept) ((S.lose kept).sure.length : Nat) W := by
  obtain ⟨vl, F, R, K⟩ := E
  have hs := K.size
  refine (settle_any F R (Gr.not hd hdl) hw (by rw [List.getElem?_set_ne (by omega)]; exact c0) (List.getElem?_set_self (by omega)) (by simpa using hl) (Fits.lose kept hf) (by have := lose_len S.loose kept; simp only; omega)).mono fun e W ⟨h1, ⟨vs', vl', h2, h3⟩, h4⟩ => ⟨h1, ⟨vs', vl', ?_, ?_⟩, ?_⟩
  · exact h2.step hs h4.size
  · rw [set_swap] at h3
    exact h3
  · exact ⟨Nat.le_trans hs h4.size, fun b hb hbl => by rw [h4.blk b ⟨Gr.not hb.1 hbl, hb.2⟩ (by omega), K.blk b hb hbl]⟩

set_option maxRecDepth 100000 in
set_option maxHeartbeats 8000000 in
theorem lose_any {w0 w : World} {P : Nat → Prop} {vs vl : Value} {S : Fl} {d o : Nat} {T : TypeId} {cur : List Value} {kept : Int} (F : FlAt w0 P vs vl S w) (R : Ro w d T cur) (hd : ¬ P d) (hw : w0.heap.size ≤ d)
    (c0 : cur[o]? = some vs) (c1 : cur[o + 1]? = some vl) (hl : o + 2 < cur.length) (hf : Fits 4194304 S.sure S.loose) (hn : S.loose.length ≤ 1073741823) (hk : -9223372036854775808 ≤ kept ∧ kept ≤ 9223372036854775807) :
    Calls Try.prog 39 #[.pointer (some ⟨d, o, none⟩), .int .i64 kept] w fun e W => e = .returned (.tuple #[]) ∧ Fil w0 P w d o T cur (S.lose kept) ((S.lose kept).sure.length : Nat) W := by
  have RC1 := R.cell c1
  obtain ⟨A, c, rfl, hc⟩ := F.loose.shape
  have HF := Lib.hid F
  have HR := Lib.hid R
  clear F R
  go_enter Try.func39, Try.ntmps39
  go_wp2_with fail
  have ND := Lib.hid hd
  have NW := Lib.hid hw
  have CE : Hid (∀ wr, LoseEx w0 P w d o T cur vs S kept wr → Calls Try.prog 34 #[.pointer (some ⟨d, o, none⟩)] wr fun e W => e = .returned (.tuple #[]) ∧ Fil w0 P w d o T cur (S.lose kept) ((S.lose kept).sure.length : Nat) W) :=
    Lib.hid fun wr E => settle_ex E hd hw HR.out.lt c0 hl hf hn
  go_loopw [1, 11] (fun q i wr => ∃ (k : Nat) (z : Int), k ≤ S.loose.length ∧ q = .int .i64 z ∧ i = .int .i64 (k : Nat) ∧ LoseAt w0 P w d T cur vs (.slice A S.loose.length c) S kept k z wr) (fun _ i _ => S.loose.length - (intOf i).toNat)
  case atStart => exact ⟨0, kept, Nat.zero_le _, rfl, rfl, LoseAt.start HF.out HR.out hk⟩
  case round =>
    obtain ⟨k, z, hk2, rfl, rfl, J⟩ := hrel
    have HJ := Lib.hid J
    clear J
    by_cases hlt : k < S.loose.length
    · obtain ⟨g, c', V, e1, hc', CV, RV⟩ := HJ.out.fl.at_ (i := k) hlt
      injection e1 with e1 _ e2
      subst e1 e2
      obtain ⟨x, hx⟩ : ∃ x, S.loose[k]? = some x := ⟨_, List.getElem?_eq_getElem hlt⟩
      have hx' : S.loose[k] = x := by simpa [hlt] using hx
      rw [hx'] at RV
      have HX := Lib.hid hx
      clear hx hx' hd hw
      have lo := HJ.out.lo
      cases x with
      | w L =>
        obtain ⟨A', c', e2, hL, hc2, hc3, hc4⟩ := RV
        obtain rfl : V = wV A' L.length c' := by simpa using e2
        unfold wV at *
        have mw := unW A' L.length c'
        by_cases hz : z < (L.length : Int)
        · have t1 : decide (z < (L.length : Int)) = true := decide_eq_true hz
          go_wp2_with fail
          refine (writeUnits_any).mono ?_
          rintro e w1 ⟨rfl, hb1⟩
          obtain ⟨u, hu⟩ : ∃ u, (max z 0).toNat = u := ⟨_, rfl⟩
          have hu' : max z 0 = (u : Int) := by omega
          have bd := hb1.drew
          have q1 := (HJ.out.ro.later bd).cell c1
          have CF : Hid (Calls Try.prog 61 #[.agg #[.slice A' L.length c'], .int .i64 (if z < 0 then 0 else z)] w1.drew fun e w2 => e = .returned (.iface 80 (.agg #[.slice A' u c'])) ∧ w2.cell? ⟨d, o + 1, none⟩ = some (.slice (some ⟨g, 0, none⟩) S.loose.length c) ∧
              (w2.alloc (.cells #[.iface 80 (.agg #[.slice A' u c'])] 83)).cell? ⟨d, o + 1, none⟩ = some (.slice (some ⟨g, 0, none⟩) S.loose.length c) ∧
              ∃ A2 c2 w4, (appC #[.slice (some ⟨g, 0, none⟩) k c, .slice (some ⟨w2.heap.size, 0, none⟩) 1 1]).run Try.prog (w2.alloc (.cells #[.iface 80 (.agg #[.slice A' u c'])] 83)) = .ok (.slice A2 (k + 1) c2) w4 ∧
                w4.cell? ⟨d, o + 1, none⟩ = some (.slice (some ⟨g, 0, none⟩) S.loose.length c) ∧ w4.frozen? ⟨d, o + 1, none⟩ = false ∧ Hid (LoseEx w0 P w d o T cur vs S kept (w4.setCell ⟨d, o + 1, none⟩ (.slice A2 (k + 1) c2)))) :=
            Lib.hid (by
             rw [show (if z < 0 then 0 else z) = (u : Int) by split <;> omega]
             exact (writeFirst_any (k := u) (by omega) hc2).mono fun e w2 ⟨h1, h2⟩ => by
              have b2 := bd.trans (h2.mono bd.size)
              have R2 := HJ.out.ro.later b2
              refine ⟨h1, R2.cell c1, (R2.alloc _).cell c1, HJ.out.last ND.out NW.out HR.out.lt c1 HX.out hz hn b2 ?_⟩
              rw [hu]
              have hk2 := hL.keep (Kept.of_below b2)
              have ht := hk2.bs.cut (c := c') (k := 0) (m := u) (by omega) hc2
              have hul : u ≤ L.length := by omega
              have hlen : (L.take u).length = u := by rw [List.length_take]; omega
              refine ⟨A', c', by rw [hlen]; rfl, ⟨?_, fun h0 a e => hk2.inP (by omega) a e⟩, by omega, by omega, hc4⟩
              rw [hlen]
              rw [List.drop_zero] at ht
              refine ⟨hlen, ht.byt, fun h0 => ?_⟩
              obtain ⟨a, ea, ha, hcel⟩ := hk2.bs.cel (by omega)
              exact ⟨a, ea, ha, fun j hj => by rw [hcel j (by omega), nth_take hj]⟩)
          have B1 := Lib.hid hb1
          have kc : k ≤ c := by omega
          have fw := fiW A' L.length c' w1.drew
          clear hb1 bd RC1
          go_wp2_with fail
          go_region_law (first | (go_simp; (with_reducible refine (CF.out).mono ?_); rintro e w2 ⟨rfl, p1, p2, A2, c2, w4, r1, p3, p4, EX⟩; go_simp))
          all_goals go_wp2_with fail
          all_goals refine (CE.out _ EX.out).mono ?_
          all_goals rintro e W ⟨rfl, G⟩
          all_goals go_wp2_with fail
          all_goals go_returns
          all_goals exact ⟨rfl, G⟩
        · have t1 : decide (z < (L.length : Int)) = false := decide_eq_false hz
          go_wp2_with fail
          refine (writeUnits_any).mono ?_
          rintro e w1 ⟨rfl, hb1⟩
          go_wp2_with fail
          refine (writeUnits_any).mono ?_
          rintro e w2 ⟨rfl, hb2⟩
          go_wp2_with fail
          go_roundw
          case rel => exact ⟨k + 1, z - (L.length : Nat), by omega, by go_num, by go_num, HJ.out.next HX.out (show ¬ z < (L.length : Int) by omega) (hb1.trans (hb2.mono hb1.size))⟩
          case measure => simp [intOf]; omega
      | c q =>
        obtain rfl : V = cV q := by simpa using RV.1
        unfold cV at *
        have mw := unC q
        by_cases hz : z < (1 : Int)
        · have t1 : decide (z < (1 : Int)) = true := decide_eq_true hz
          go_wp2_with fail
          refine (cutUnits_any).mono ?_
          rintro e w1 ⟨rfl, hb1⟩
          have bd := hb1.drew
          have q1 := (HJ.out.ro.later bd).cell c1
          have CF : Hid (Calls Try.prog 64 #[.agg #[.int .i64 (q : Nat)], .int .i64 (if z < 0 then 0 else z)] w1.drew fun e w2 => e = .returned (.iface 80 (.agg #[.slice none 0 0])) ∧ w2.cell? ⟨d, o + 1, none⟩ = some (.slice (some ⟨g, 0, none⟩) S.loose.length c) ∧
              (w2.alloc (.cells #[.iface 80 (.agg #[.slice none 0 0])] 83)).cell? ⟨d, o + 1, none⟩ = some (.slice (some ⟨g, 0, none⟩) S.loose.length c) ∧
              ∃ A2 c2 w4, (appC #[.slice (some ⟨g, 0, none⟩) k c, .slice (some ⟨w2.heap.size, 0, none⟩) 1 1]).run Try.prog (w2.alloc (.cells #[.iface 80 (.agg #[.slice none 0 0])] 83)) = .ok (.slice A2 (k + 1) c2) w4 ∧
                w4.cell? ⟨d, o + 1, none⟩ = some (.slice (some ⟨g, 0, none⟩) S.loose.length c) ∧ w4.frozen? ⟨d, o + 1, none⟩ = false ∧ Hid (LoseEx w0 P w d o T cur vs S kept (w4.setCell ⟨d, o + 1, none⟩ (.slice A2 (k + 1) c2)))) :=
            Lib.hid ((cutFirst_any).mono fun e w2 ⟨h1, h2⟩ => by
              have b2 := bd.trans (h2.mono bd.size)
              have R2 := HJ.out.ro.later b2
              refine ⟨h1, R2.cell c1, (R2.alloc _).cell c1, HJ.out.last ND.out NW.out HR.out.lt c1 HX.out hz hn b2 ?_⟩
              exact ⟨none, 0, rfl, BsP.nil _ _ _, Nat.le_refl _, by decide, by decide⟩)
          have B1 := Lib.hid hb1
          have kc : k ≤ c := by omega
          have fw := fiC q w1.drew
          clear hb1 bd RC1
          go_wp2_with fail
          go_region_law (first | (go_simp; (with_reducible refine (CF.out).mono ?_); rintro e w2 ⟨rfl, p1, p2, A2, c2, w4, r1, p3, p4, EX⟩; go_simp))
          all_goals go_wp2_with fail
          all_goals refine (CE.out _ EX.out).mono ?_
          all_goals rintro e W ⟨rfl, G⟩
          all_goals go_wp2_with fail
          all_goals go_returns
          all_goals exact ⟨rfl, G⟩
        · have t1 : decide (z < (1 : Int)) = false := decide_eq_false hz
          go_wp2_with fail
          refine (cutUnits_any).mono ?_
          rintro e w1 ⟨rfl, hb1⟩
          go_wp2_with fail
          refine (cutUnits_any).mono ?_
          rintro e w2 ⟨rfl, hb2⟩
          go_wp2_with fail
          go_roundw
          case rel => exact ⟨k + 1, z - 1, by omega, by go_num, by go_num, HJ.out.next HX.out (show ¬ z < (1 : Int) by omega) (hb1.trans (hb2.mono hb1.size))⟩
          case measure => simp [intOf]; omega
    · have EX := Lib.hid (HJ.out.ends (o := o) (by omega) c1)
      go_wp2_with fail
      refine (CE.out _ EX.out).mono ?_
      rintro e W ⟨rfl, G⟩
      go_wp2_with fail
      go_returns
      exact ⟨rfl, G⟩
end Go.Proofs.Ytgnomopiofpknaa
