/- The reference's disk in memory; done, Stands. No condition but bounds. -/
import Derived.Test.YtjcphpmlekfhdaaGreatDoorRfX
import Derived.Test.YtjcphpmlekfhdaaGreatDoorGm
namespace Go.Proofs.YtjcphpmlekfhdaaGreatDoor
open Go.RowKit

def rcV : Chg → List Value
  | .w b => [.bool false, .string (strB b), .int .i64 0]
  | .c n => [.bool true, .string ⟨#[]⟩, .int .i64 (n : Nat)]
/-- How a change of the reference reads. -/
def RcR : Reads Chg := fun _ _ V x => V = rcV x ∧ match x with
  | .w b => b.length ≤ 4194304
  | .c n => n ≤ 4194304
theorem rcM : Mono RcR := ⟨fun h _ => h, fun h _ => h⟩
theorem rcV_len (x : Chg) : (rcV x).length = 3 := by cases x <;> rfl
def rkV (S : Dk) (v0 v1 : Value) : List Value := [.string (strB S.f.sure), v0, .string (strB S.g.sure), v1, .int .i64 (S.most : Nat), .int .i64 S.fuse, .bool (!S.off)]
abbrev noP : Nat → Prop := fun _ => False
/-- Block r is a disk of the reference's. -/
structure RkAt (w0 : World) (r : Nat) (S : Dk) (w : World) (v0 v1 : Value) : Prop where
  l0 : OwnRw 138 3 RcR w0 noP v0 S.f.loose.length S.f.loose w
  l1 : OwnRw 138 3 RcR w0 noP v1 S.g.loose.length S.g.loose w
  ne : ∀ k, v0.ownBlock = some k → v1.ownBlock ≠ some k
  n0 : v0.ownBlock ≠ some r
  n1 : v1.ownBlock ≠ some r
  lo : w0.heap.size ≤ r
  ro : Ro w r 70 (rkV S v0 v1)
  ok : S.Ok
def Rsk (w0 : World) (r : Nat) (F : Nat → Prop) (S : Dk) (w : World) : Prop :=
  ∃ v0 v1, RkAt w0 r S w v0 v1 ∧ (∀ b, v0.ownBlock = some b ∨ v1.ownBlock = some b ∨ b = r → F b) ∧ ∀ b, F b → w0.heap.size ≤ b ∧ b < w.heap.size
structure RDid (w0 : World) (r : Nat) (F : Nat → Prop) (w : World) (S : Dk) (W : World) : Prop where
  dsk : Rsk w0 r (Gr F w W) S W
  kept : Kept (fun b => ¬ F b) w W
section
variable {w0 w w' W : World} {r : Nat} {F : Nat → Prop} {S : Dk} {v0 v1 : Value}
theorem RkAt.bel (D : RkAt w0 r S w v0 v1) : Below w0.heap.size w0 w := D.l0.bel
theorem RkAt.keep (D : RkAt w0 r S w v0 v1) (g : Kept (fun b => v0.ownBlock = some b ∨ v1.ownBlock = some b ∨ b = r) w w') (hb : Below w0.heap.size w0 w') : RkAt w0 r S w' v0 v1 :=
  { D with
    l0 := D.l0.kept rcM g.size (fun b h hl => by
      rcases h with h | h
      · exact h.elim
      · exact g.blk b (.inl h) hl) hb
    l1 := D.l1.kept rcM g.size (fun b h hl => by
      rcases h with h | h
      · exact h.elim
      · exact g.blk b (.inr (.inl h)) hl) hb
    ro := D.ro.same (g.blk r (.inr (.inr rfl)) D.ro.lt) }
theorem Rsk.bel (h : Rsk w0 r F S w) : Below w0.heap.size w0 w := by
  obtain ⟨_, _, D, _⟩ := h
  exact D.bel
theorem Rsk.at_ (h : Rsk w0 r F S w) : F r ∧ w0.heap.size ≤ r ∧ r < w.heap.size := by
  obtain ⟨_, _, D, h1, h2⟩ := h
  exact ⟨h1 r (.inr (.inr rfl)), D.lo, D.ro.lt⟩
theorem Rsk.ok (h : Rsk w0 r F S w) : S.Ok := by
  obtain ⟨_, _, D, _⟩ := h
  exact D.ok
theorem Rsk.keep (h : Rsk w0 r F S w) (g : Kept F w w') (hb : Below w0.heap.size w0 w') : Rsk w0 r F S w' := by
  obtain ⟨v0, v1, D, h1, h2⟩ := h
  exact ⟨v0, v1, D.keep (g.weak fun b hb _ => h1 b hb) hb, h1, fun b hb => ⟨(h2 b hb).1, Nat.lt_of_lt_of_le (h2 b hb).2 g.size⟩⟩
theorem Rsk.later (h : Rsk w0 r F S w) (g : Below w.heap.size w w') : Rsk w0 r F S w' := h.keep (Kept.of_below g) (h.bel.trans (g.mono h.bel.size))
theorem Rsk.more {G : Nat → Prop} (h : Rsk w0 r F S w) (h1 : ∀ b, F b → G b) (h2 : ∀ b, G b → w0.heap.size ≤ b ∧ b < w.heap.size) : Rsk w0 r G S w := by
  obtain ⟨v0, v1, D, h3, h4⟩ := h
  exact ⟨v0, v1, D, fun b hb => h1 b (h3 b hb), h2⟩
theorem RDid.below (h : Rsk w0 r F S w) (g : Below w.heap.size w W) : RDid w0 r F w S W :=
  ⟨(h.later g).more (fun b hb => .inl hb) (fun b hb => by
    have := g.size
    rcases hb with hb | hb
    · obtain ⟨_, _, _, _, h2⟩ := h
      have := h2 b hb
      exact ⟨this.1, by omega⟩
    · have := h.bel.size
      exact ⟨by omega, hb.2⟩), Kept.of_below g⟩
theorem RDid.refl (h : Rsk w0 r F S w) : RDid w0 r F w S w := RDid.below h (Below.refl _ _)
theorem RDid.trans {w1 w2 : World} {S1 S2 : Dk} (A : RDid w0 r F w S1 w1) (B : RDid w0 r (Gr F w w1) w1 S2 w2) : RDid w0 r F w S2 w2 := by
  have h1 := A.kept.size
  have h2 := B.kept.size
  refine ⟨B.dsk.more (Gr.step h1 h2) (fun b hb => ?_), by omega, fun b hb hl => by rw [B.kept.blk b (Gr.not hb hl) (by omega), A.kept.blk b hb hl]⟩
  obtain ⟨_, _, D, _, hL⟩ := A.dsk
  have := D.bel.size
  rcases hb with hb | hb
  · have := hL b (.inl hb)
    omega
  · rcases Nat.lt_or_ge b w1.heap.size with h | h
    · have := hL b (.inr ⟨hb.1, h⟩)
      omega
    · omega
/-- One cell of the disk itself is another. -/
theorem Rsk.setDid {S' : Dk} (D : RkAt w0 r S w v0 v1) (hF : ∀ b, v0.ownBlock = some b ∨ v1.ownBlock = some b ∨ b = r → F b) (hL : ∀ b, F b → w0.heap.size ≤ b ∧ b < w.heap.size) (o : Nat) (v : Value) (hf : S'.f.loose = S.f.loose) (hg : S'.g.loose = S.g.loose) (hok : S'.Ok) (he : (rkV S v0 v1).set o v = rkV S' v0 v1) :
    RDid w0 r F w S' (w.setCell ⟨r, o, none⟩ v) := by
  have hb := D.bel.setCell (p := ⟨r, o, none⟩) D.lo v
  have k := kept_set w r o v (P := fun b => b ≠ r) fun h => h rfl
  refine ⟨⟨v0, v1, { D with l0 := ?_, l1 := ?_, ro := ?_, ok := hok }, fun b h => .inl (hF b h), fun b h => ?_⟩, k.weak fun b h _ e => h (e ▸ hF r (.inr (.inr rfl)))⟩
  · rw [hf]
    exact D.l0.kept rcM k.size (fun b h hl => k.blk b (fun e => by rcases h with h | h; exact h.elim; exact D.n0 (e ▸ h)) hl) hb
  · rw [hg]
    exact D.l1.kept rcM k.size (fun b h hl => k.blk b (fun e => by rcases h with h | h; exact h.elim; exact D.n1 (e ▸ h)) hl) hb
  · rw [← he]; exact D.ro.set o v
  · have hs : (w.setCell ⟨r, o, none⟩ v).heap.size = w.heap.size := by simp
    rcases h with h | h
    · rw [hs]; exact hL b h
    · omega
end
theorem RkAt.cells {w0 w : World} {r : Nat} {S : Dk} {v0 v1 : Value} (D : RkAt w0 r S w v0 v1) :
    w.cell? ⟨r, 0, none⟩ = some (.string (strB S.f.sure)) ∧ w.cell? ⟨r, 1, none⟩ = some v0 ∧ w.cell? ⟨r, 2, none⟩ = some (.string (strB S.g.sure)) ∧ w.cell? ⟨r, 3, none⟩ = some v1 ∧ w.cell? ⟨r, 4, none⟩ = some (.int .i64 (S.most : Nat)) ∧ w.cell? ⟨r, 5, none⟩ = some (.int .i64 S.fuse) ∧ w.cell? ⟨r, 6, none⟩ = some (.bool (!S.off)) :=
  ⟨D.ro.cell rfl, D.ro.cell rfl, D.ro.cell rfl, D.ro.cell rfl, D.ro.cell rfl, D.ro.cell rfl, D.ro.cell rfl⟩
/-- The loose row, as any slice reads. -/
theorem rows_own {w0 w : World} {v : Value} {l : List Chg} (h : OwnRw 138 3 RcR w0 noP v l.length l w) : ∃ A c, v = .slice A l.length c ∧ l.length ≤ c ∧ Rows w anyP 3 RcR A l.length l := by
  obtain ⟨A, c, rfl, hc⟩ := h.shape
  exact ⟨A, c, rfl, hc, (h.reads rcM).weak rcM fun _ _ _ => trivial⟩

/-- A change in its slice. -/
theorem rc_at {w : World} {b o n : Nat} {l : List Chg} (h : Rows w anyP 3 RcR (some ⟨b, o, none⟩) n l) {k : Nat} (hk : k < l.length) :
    (∃ L, l[k] = .w L ∧ L.length ≤ 4194304 ∧ w.cell? ⟨b, o + k * 3, none⟩ = some (.bool false) ∧ w.cell? ⟨b, o + k * 3 + 1, none⟩ = some (.string (strB L))) ∨
    (∃ q, l[k] = .c q ∧ q ≤ 4194304 ∧ w.cell? ⟨b, o + k * 3, none⟩ = some (.bool true) ∧ w.cell? ⟨b, o + k * 3 + 2, none⟩ = some (.int .i64 (q : Nat))) := by
  obtain ⟨_, _, V, _, hr, rfl, hx⟩ := h.at_ hk
  cases e : l[k] with
  | w L =>
    rw [e] at hr hx
    exact .inl ⟨L, rfl, hx, hr 0 _ rfl, hr 1 _ rfl⟩
  | c q =>
    rw [e] at hr hx
    exact .inr ⟨q, rfl, hx, hr 0 _ rfl, hr 2 _ rfl⟩
theorem drop_cons {l : List Chg} {k : Nat} (hk : k < l.length) : l.drop k = l[k] :: l.drop (k + 1) := List.drop_eq_getElem_cons hk
set_option maxRecDepth 100000 in
set_option maxHeartbeats 4000000 in
theorem done_any {w : World} {A : Option Addr} {n c : Nat} {l : List Chg} {s0 : List Nat} {u0 : Int} (hl : Rows w anyP 3 RcR A n l) (hn : n ≤ 1073741823) (hu : -9223372036854775808 ≤ u0 ∧ u0 ≤ 9223372036854775807) (hs : s0.length + usum l ≤ 1099511627776) :
    Calls Tryz.prog 90 #[.string (strB s0), .slice A n c, .int .i64 u0] w fun e w' => e = .returned (.string (strB (doneS s0 l u0))) ∧ w' = w := by
  have hlen := hl.len
  have HL := Lib.hid hl
  clear hl
  go_enter Tryz.func90, Tryz.ntmps90
  go_wp2_with fail
  go_loopw [0, 2, 7] (fun v u i wr => ∃ (k : Nat) (s : List Nat) (x : Int), k ≤ n ∧ v = .string (strB s) ∧ u = .int .i64 x ∧ i = .int .i64 (k : Nat) ∧ (-9223372036854775808 ≤ x ∧ x ≤ 9223372036854775807) ∧ doneS s (l.drop k) x = doneS s0 l u0 ∧ s.length + usum (l.drop k) ≤ 1099511627776 ∧ wr = w) (fun _ _ i _ => n - (intOf i).toNat)
  case atStart => exact ⟨0, s0, u0, Nat.zero_le _, rfl, rfl, rfl, hu, by rw [List.drop_zero], by rw [List.drop_zero]; exact hs, rfl⟩
  case round =>
    obtain ⟨k, s, x, hk, rfl, rfl, rfl, hx, hd, hsz, rfl⟩ := hrel
    clear hu hs
    have HD := Lib.hid hd
    have HS := Lib.hid hsz
    have ssz := strB_size s
    have e0 : ({ data := #[] } : ByteArray) = ByteArray.empty := rfl
    clear hd hsz
    by_cases hkn : k < n
    · have t1 : decide ((k : Int) < (n : Int)) = true := decide_eq_true (by omega)
      by_cases hx0 : 0 < x
      · have t2 : decide (0 < x) = true := decide_eq_true hx0
        have t3 : decide (x > 0) = true := decide_eq_true hx0
        obtain ⟨b, o, rfl⟩ := rows_some HL.out (by omega)
        have hkl : k < l.length := by omega
        have hdc := drop_cons hkl
        rcases rc_at HL.out hkl with ⟨L, eL, hL, c0, c1⟩ | ⟨q, eq, hq, c0, c1⟩
        · have lsz := strB_size L
          have HDN : Hid (∀ m, m = min x.toNat L.length → doneS (s ++ L.take m) (l.drop (k + 1)) (x - (m : Nat)) = doneS s0 l u0 ∧ (s ++ L.take m).length + usum (l.drop (k + 1)) ≤ 1099511627776) := Lib.hid (by
            intro m hm
            have hd := HD.out
            have hz := HS.out
            rw [hdc, eL] at hd hz
            subst hm
            refine ⟨?_, ?_⟩
            · rw [← hd]
              conv => rhs; unfold doneS
              rw [if_neg (by omega)]
            · simp only [usum, units] at hz
              rw [List.length_append, List.length_take]
              omega)
          have hz : s.length + L.length ≤ 1099511627776 := by
            have hz := HS.out
            rw [hdc, eL] at hz
            simp only [usum, units] at hz
            omega
          clear hdc eL
          by_cases hxl : x < (L.length : Int)
          · obtain ⟨m, rfl⟩ : ∃ m : Nat, x = (m : Int) := ⟨x.toNat, by omega⟩
            have t4 : decide ((L.length : Int) < (m : Int)) = false := decide_eq_false (by omega)
            have t5 : ¬ ((L.length : Int) < (m : Int)) := by omega
            have szf : (9223372036854775807 < (strB s).size + m) = False := eq_false (by rw [ssz]; omega)
            obtain ⟨y1, y2⟩ := HDN.out m (by omega)
            have Y1 := Lib.hid y1
            have Y2 := Lib.hid y2
            clear y1 y2
            go_wp2_with fail
            go_roundw
            case rel => exact ⟨k + 1, s ++ L.take m, 0, by omega, by rw [strB_take, strB_app], rfl, by go_num, by omega, by have := Y1.out; rwa [Int.sub_self] at this, Y2.out, trivial⟩
            case measure => simp [intOf]; omega
          · have t5 : (L.length : Int) ≤ x := by omega
            have szf : (9223372036854775807 < (strB s).size + L.length) = False := eq_false (by rw [ssz]; omega)
            obtain ⟨y1, y2⟩ := HDN.out L.length (by omega)
            rw [List.take_length] at y1 y2
            have Y1 := Lib.hid y1
            have Y2 := Lib.hid y2
            clear y1 y2
            rcases (by omega : (L.length : Int) < x ∨ x = (L.length : Int)) with q | q
            · have t6 : decide ((L.length : Int) < x) = true := decide_eq_true q
              go_wp2_with fail
              go_roundw
              case rel => exact ⟨k + 1, s ++ L, x - (L.length : Nat), by omega, by (first | rw [strB_app] | rw [strB_take, strB_app, List.take_length]), rfl, by go_num, by omega, Y1.out, Y2.out, trivial⟩
              case measure => simp [intOf]; omega
            · have t6 : decide ((L.length : Int) < x) = false := decide_eq_false (by omega)
              subst q
              go_wp2_with fail
              go_roundw
              case rel => exact ⟨k + 1, s ++ L, 0, by omega, by (first | rw [strB_app] | rw [strB_take, strB_app, List.take_length]), rfl, by go_num, by omega, by have := Y1.out; rwa [Int.sub_self] at this, Y2.out, trivial⟩
              case measure => simp [intOf]; omega
        · have HDN : Hid (doneS (s.take q) (l.drop (k + 1)) (x - 1) = doneS s0 l u0 ∧ (s.take q).length + usum (l.drop (k + 1)) ≤ 1099511627776) := Lib.hid (by
            have hd := HD.out
            have hz := HS.out
            rw [hdc, eq] at hd hz
            refine ⟨?_, ?_⟩
            · rw [← hd]
              conv => rhs; unfold doneS
              rw [if_neg (by omega)]
            · simp only [usum, units] at hz
              rw [List.length_take]
              omega)
          clear hdc eq
          by_cases hq2 : s.length < q
          · have t4 : decide ((s.length : Int) < (q : Int)) = true := decide_eq_true (by omega)
            have t5 : (s.length : Int) < (q : Int) := by omega
            have e : s.take q = s := List.take_of_length_le (by omega)
            rw [e] at HDN
            go_wp2_with fail
            go_roundw
            case rel => exact ⟨k + 1, s, x - 1, by omega, by (first | rfl | rw [strB_take, List.take_length]), rfl, by go_num, by omega, HDN.out.1, HDN.out.2, trivial⟩
            case measure => simp [intOf]; omega
          · have t4 : decide ((s.length : Int) < (q : Int)) = false := decide_eq_false (by omega)
            have t5 : ¬ (s.length : Int) < (q : Int) := by omega
            go_wp2_with fail
            go_roundw
            case rel => exact ⟨k + 1, s.take q, x - 1, by omega, by rw [strB_take], rfl, by go_num, by omega, HDN.out.1, HDN.out.2, trivial⟩
            case measure => simp [intOf]; omega
      · have t2 : decide (0 < x) = false := decide_eq_false hx0
        have t3 : decide (x > 0) = false := decide_eq_false hx0
        have e : doneS s0 l u0 = s := by rw [← HD.out, doneS_zero _ _ _ (by omega)]
        have E := Lib.hid e
        clear e
        go_wp2_with fail
        go_ret
        exact ⟨by rw [E.out]; rfl, rfl⟩
    · have t1 : decide ((k : Int) < (n : Int)) = false := decide_eq_false (by omega)
      have e : doneS s0 l u0 = s := by
        have hd := HD.out
        rw [List.drop_of_length_le (by omega)] at hd
        rw [← hd]; rfl
      have E := Lib.hid e
      clear e
      go_wp2_with fail
      go_ret
      exact ⟨by rw [E.out]; rfl, rfl⟩
end Go.Proofs.YtjcphpmlekfhdaaGreatDoor
