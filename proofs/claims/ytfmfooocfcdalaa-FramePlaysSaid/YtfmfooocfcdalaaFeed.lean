/- Feed of a framer that is there and not over: the lines that end, what is held then, whether it is over. No condition but a bound on the length. -/
import Derived.Test.YtfmfooocfcdalaaFeedA
namespace Go.Proofs.Ytfmfooocfcdalaa
open Go.RowKit Go.Shelf
attribute [local go_sem] Oper.semAt_some
attribute [local go_sem ↓] appB_mark appL_mark

/-- What Feed leaves. -/
def FeedEnd (w0 w : World) (f : Nat) (k0 : Option Nat) (M0 L : List Nat) (e : Ending) (W : World) : Prop :=
  ∃ ls M ov v lv vs, feedS ([], M0, false) L = (ls, M, ov) ∧ e = .returned (.tuple #[lv, .int .i64 (if ov then 6 else 0)]) ∧ M.length ≤ 65536 ∧ FJ w0 w f k0 ls M (if ov then 6 else 0) v lv vs W ∧ FrB W f v ov

/-- Between two parts. -/
def FG (w0 w : World) (f : Nat) (k0 : Option Nat) (M0 L : List Nat) (pre : List Told) (W : World) : Prop :=
  ∃ v lv vs ls M, toldS ([], M0, false) L pre = (ls, M, false) ∧ (M.length ≤ 65536 ∧ ls.length ≤ pre.length) ∧ FJ w0 w f k0 ls M 0 v lv vs W ∧ FrB W f v false
/-- Over. -/
def FX (w0 w : World) (f : Nat) (k0 : Option Nat) (M0 L : List Nat) (cd : Code) (pre : List Told) (W : World) : Prop :=
  ∃ lv vs ls, cd = .exit 1 ∧ toldS ([], M0, false) L pre = (ls, [], true) ∧ FJ w0 w f k0 ls [] 6 (.slice none 0 0) lv vs W ∧ FrB W f (.slice none 0 0) true
theorem FG.keep {w0 w : World} {f : Nat} {k0 : Option Nat} {M0 L : List Nat} {pre : List Told} {W W' : World} (h : FG w0 w f k0 M0 L pre W) (g : Keeps w.heap.size (w.heap.size + 3) W W') : FG w0 w f k0 M0 L pre W' := by
  obtain ⟨v, lv, vs, ls, M, h1, h2, h3, h4⟩ := h
  exact ⟨v, lv, vs, ls, M, h1, h2, h3.keep g, g.frB h4 (by have := h3.fl; omega)⟩
theorem FX.keep {w0 w : World} {f : Nat} {k0 : Option Nat} {M0 L : List Nat} {cd : Code} {pre : List Told} {W W' : World} (h : FX w0 w f k0 M0 L cd pre W) (g : Keeps w.heap.size (w.heap.size + 3) W W') : FX w0 w f k0 M0 L cd pre W' := by
  obtain ⟨lv, vs, ls, h0, h1, h3, h4⟩ := h
  exact ⟨lv, vs, ls, h0, h1, h3.keep g, g.frB h4 (by have := h3.fl; omega)⟩
theorem FG.size {w0 w : World} {f : Nat} {k0 : Option Nat} {M0 L : List Nat} {pre : List Told} {W : World} (h : FG w0 w f k0 M0 L pre W) : w.heap.size ≤ W.heap.size := by
  obtain ⟨_, _, _, _, _, _, _, h3, _⟩ := h
  have := h3.size; omega
theorem FX.size {w0 w : World} {f : Nat} {k0 : Option Nat} {M0 L : List Nat} {cd : Code} {pre : List Told} {W : World} (h : FX w0 w f k0 M0 L cd pre W) : w.heap.size ≤ W.heap.size := by
  obtain ⟨_, _, _, _, _, h3, _⟩ := h
  have := h3.size; omega
theorem Keeps.drew {s Bx : Nat} (W : World) : Keeps s Bx W W.drew := ⟨Nat.le_refl _, fun _ _ _ h _ => h, fun _ _ => rfl, rfl, rfl, rfl⟩

/-- A box that is given what it holds. -/
theorem boxed_same {W : World} {B : Nat} {t : TypeId} {v : Value} (h : Boxed W B t v) : W.setCell ⟨B, 0, none⟩ v = W := by
  have hh : (W.setCell ⟨B, 0, none⟩ v).heap = W.heap := by
    refine Array.ext_getElem? fun k => ?_
    by_cases e : k = B
    · subst e
      exact (h.set v).trans h.symm
    · exact Below.heap_setCell W ⟨B, 0, none⟩ v k e
  cases W
  simp only [World.setCell] at hh ⊢
  rw [hh]
theorem row_shape {w : World} {base : Nat} {e : TypeId} {size : Nat} {v : Value} {n : Nat} {xs : List Value} (h : w.ownsRow base e size v n xs) : ∃ A c, v = .slice A n c ∧ n ≤ c := by
  rcases h.2 with ⟨rfl, rfl⟩ | ⟨g, cap, cur, rfl, _, _, hc, _⟩
  · exact ⟨none, 0, rfl, Nat.le_refl _⟩
  · exact ⟨_, _, rfl, hc⟩

set_option maxRecDepth 100000 in
set_option maxHeartbeats 4000000 in
theorem feed_in {w0 : World} {A : Option Addr} {n c f : Nat} {v0 : Value} {M0 L : List Nat} (w : World) (h : FrB w f v0 false) (hO : Own w0 v0 M0.length M0 w) (hfw : w0.heap.size ≤ f) (hvf : v0.ownBlock ≠ some f) (hM0 : M0.length ≤ 65536)
    (hL : Bs w A n L) (hnc : n ≤ c) (hc : c ≤ 9223372036854775807) (hn : n ≤ 549755813888) (hA : 0 < n → ∀ a, A = some a → a.block ≠ f ∧ v0.ownBlock ≠ some a.block) :
    CallsIn Fence.wide 3 Try.prog 11 #[.pointer (some ⟨f, 0, none⟩), .slice A n c] w (FeedEnd w0 w f v0.ownBlock M0 L) := by
  have F3 := Lib.hid (((h.alloc (.cells #[.pointer (some ⟨f, 0, none⟩)] 24)).alloc (.cells #[.slice none 0 0] 30)).alloc (.cells #[.int .i64 0] 36))
  have hf := h.lt
  have c1 := F3.out.c1
  have HH := Lib.hid h
  have HO := Lib.hid hO
  have HL := Lib.hid hL
  have HA := Lib.hid hA
  have HV := Lib.hid hvf
  clear h hO hL hA hvf
  refine callsIn_of_wp_marks Try.func11 rfl trivial ?_ rfl
  simp only [Try.ntmps11, List.size_toArray, List.length_cons, List.length_nil, Nat.reduceAdd, Nat.reduceSub, Array.replicate_succ, Array.replicate_zero, List.push_toArray, List.append_toArray, List.nil_append, List.cons_append]
  gi_wp2
  refine wpIn_scope_wide ?_
  gi_wp2
  refine wpIn_label ?_
  gi_wp2_with (refine ⟨trivial, ?_⟩; gi_at_call 18; refine (parts_in _ _ _ _).mono ?_; rintro e w2 ⟨rfl, rfl⟩)
  clear c1
  obtain ⟨W4, hW4⟩ : ∃ W4, W4 = (((w.alloc (.cells #[.pointer (some ⟨f, 0, none⟩)] 24)).alloc (.cells #[.slice none 0 0] 30)).alloc (.cells #[.int .i64 0] 36)).alloc (.cells #[.slice A n c] 27) := ⟨_, rfl⟩
  have z4 : W4.heap.size = w.heap.size + 4 := by rw [hW4]; simp
  have b4 : Below w.heap.size w W4 := by rw [hW4]; exact ((((Below.refl _ w).alloc (Nat.le_refl _) _).alloc (by simp only [World.size_alloc]; omega) _).alloc (by simp only [World.size_alloc]; omega) _).alloc (by simp only [World.size_alloc]; omega) _
  have hsz := HO.out.size
  have J4 : FJ w0 w f v0.ownBlock [] M0 0 v0 (.slice none 0 0) [] W4 := by
    refine ⟨?_, ?_, ?_, HO.out.later b4, fun k e => ⟨.inl e, fun e2 => HV.out (by rw [e, e2]), (fun e2 => by cases e2)⟩, World.ownsRow_nil _ _ _ _, .nil, fun k h1 _ _ => b4.block k h1, by omega, hf, fun k e => (HO.out.new k e).2, hsz, hfw⟩
    · rw [hW4]; exact (((Boxed.new w _ _).alloc _).alloc _).alloc _
    · rw [hW4]
      have := ((Boxed.new (w.alloc (.cells #[.pointer (some ⟨f, 0, none⟩)] 24)) 30 (.slice none 0 0)).alloc (.cells #[.int .i64 0] 36)).alloc (.cells #[.slice A n c] 27)
      rwa [World.size_alloc] at this
    · rw [hW4]
      have := (Boxed.new ((w.alloc (.cells #[.pointer (some ⟨f, 0, none⟩)] 24)).alloc (.cells #[.slice none 0 0] 30)) 36 (.int .i64 0)).alloc (.cells #[.slice A n c] 27)
      rwa [World.size_alloc, World.size_alloc] at this
  have F4 : FrB W4 f v0 false := by rw [hW4]; exact F3.out.alloc _
  have X4 : Boxed W4 (w.heap.size + 3) 27 (.slice A n c) := by
    rw [hW4]
    have := Boxed.new (((w.alloc (.cells #[.pointer (some ⟨f, 0, none⟩)] 24)).alloc (.cells #[.slice none 0 0] 30)).alloc (.cells #[.int .i64 0] 36)) 27 (.slice A n c)
    rwa [World.size_alloc, World.size_alloc, World.size_alloc] at this
  have L4 : Bs W4 A n L := HL.out.later b4
  rw [← hW4]
  have hAlt : 0 < n → ∀ a, A = some a → a.block < w.heap.size := fun h0 a e => by
    obtain ⟨b, e2, hb, _⟩ := HL.out.cel h0
    rw [e] at e2
    injection e2 with e2
    subst e2
    exact hb
  have HAL := Lib.hid hAlt
  have B4 := Lib.hid b4
  clear hW4 F3 hAlt b4
  have Z4 := Lib.hid z4
  refine range_turns (w := W4) rfl (by decide) (gf := 20) (lb := #[.pointer (some ⟨w.heap.size + 3, 0, none⟩)]) rfl trivial (enters_of Try.func20 (by kernel_rfl) rfl)
    (encs := fun x : Told => #[.slice x.1 x.2.2.1 (c - x.2.1), .bool x.2.2.2]) (Tn := Tb (w.heap.size + 3)) (Kp := Kq fun k => k = w.heap.size + 3 ∨ (0 < n ∧ ∃ a, A = some a ∧ k = a.block)) (S := TellsAll A L) (Sp := Tells A L)
    (parts_turns (w.heap.size + 3) A n c L hnc hc _ (.inl rfl) (fun h0 a e => ⟨.inr ⟨h0, a, e, rfl⟩, by have := HAL.out h0 a e; omega⟩) W4 X4 L4) (fun A B h => tb_keeps A B h)
    kq_t (kq_b fun k hk => by
      rcases hk with e | ⟨h0, a, e, e2⟩
      · omega
      · have := HAL.out h0 a e; omega) (fun _ => rfl)
    (FG w0 w f v0.ownBlock M0 L) (FX w0 w f v0.ownBlock M0 L)
    (fun s X Y row hs hg hr => hs.keep (Keeps.of_grown hs.size hg fun r e => ⟨by have := (hr r e).1; omega, (hr r e).2⟩))
    (fun cd s X Y row hs hg hr => hs.keep (Keeps.of_grown hs.size hg fun r e => ⟨by have := (hr r e).1; omega, (hr r e).2⟩))
    (fun s X Y hs ht => hs.keep (Keeps.of_box (by omega) ht))
    ⟨v0, _, [], [], M0, rfl, ⟨hM0, Nat.le_refl _⟩, J4, F4⟩
    (fun x => { tmps := #[Value.pointer (some { block := f, off := 0 }), Value.slice A n c, Value.pointer (some { block := w.heap.size, off := 0 }), undef, Value.pointer (some { block := w.heap.size + 1, off := 0 }), Value.pointer (some { block := w.heap.size + 1 + 1, off := 0 }), .slice x.1 x.2.2.1 (c - x.2.1), .bool x.2.2.2, Value.bool false, Value.pointer (some { block := f, off := 0 }), Value.bool false, Value.bool false, Value.pointer (some { block := f, off := 0 }), Value.pointer (some { block := f, off := 0 }), Value.pointer (some { block := f, off := 1 }), Value.bool false, Value.slice A n c, Value.func (Fn.func 20) #[] #[Value.pointer (some { block := w.heap.size + 1 + 1 + 1, off := 0 })], .slice x.1 x.2.2.1 (c - x.2.1), .bool x.2.2.2, undef, undef, undef, undef, undef, undef, undef, undef, undef, undef, undef, undef, undef, undef, undef, undef, undef, undef, undef, undef, undef, undef, undef, undef, undef, undef, undef, undef, undef, undef, undef, undef, undef, undef, undef, undef, undef, undef, undef, undef, undef], defers := [] }) ?assign ?body ?done ?stop
  case assign =>
    intro l x W K hK
    gi_wp2
    exact hK
  case body =>
    rintro l pre ⟨xa, xp, xk, xe⟩ W ⟨v, lv, vs, ls, M, h1, ⟨h2, h2b⟩, h3, h4⟩ hT
    obtain ⟨hx1, hx2⟩ := tells_piece hT
    have hLW : Bs W A n L := HL.out.kept fun h0 a e => by
      have := HA.out h0 a e
      exact h3.old a.block (HAL.out h0 a e) this.1 this.2
    have hR := tells_reads hT hLW hnc
    have hs := toldS_snoc ([], M0, false) L pre (xa, xp, xk, xe)
    rw [h1] at hs
    obtain ⟨P, hP⟩ : ∃ P, (content L (xp, xk, xe)).1 = P := ⟨_, rfl⟩
    have hc2 : content L (xp, xk, xe) = (P, xe) := by rw [← hP]; rfl
    dsimp only at hx2 hR hs
    rw [hP] at hx2 hR
    rw [hc2] at hs
    have hPl : P.length = xk := hR.len
    have hvl : vs.length ≤ 1099511627775 := by
      have h5 := h3.lines.len
      have h6 := tells_length hT
      have h7 := HL.out.len
      rw [List.length_append] at h6
      omega
    have hLl := HL.out.len
    obtain ⟨vB, vc, rfl, hvc⟩ := h3.held.shape
    obtain ⟨lB, lc, rfl, hlc⟩ := row_shape h3.row
    have c2 := h3.b2.cell
    have c4 := h3.b4.cell
    have y4 := h3.b4.frozen
    have c5 : W.cell? ⟨w.heap.size + 1 + 1, 0, none⟩ = some (.int .i64 0) := h3.b5.cell
    have y5 : W.frozen? ⟨w.heap.size + 1 + 1, 0, none⟩ = false := h3.b5.frozen
    have f0 := h4.c0
    have f1 := h4.c1
    have f2 := h4.z0
    have f3 := h4.z1
    have J := Lib.hid h3
    have FB := Lib.hid h4
    have HS := Lib.hid hs
    have HX2 := Lib.hid hx2
    have HR := Lib.hid hR
    have HT := Lib.hid hT
    have hsW : w.heap.size + 4 ≤ W.heap.size := J.out.size
    have mixed : Try.prog.follows .mixedOrders = true := by kernel_rfl
    have hxk : xk ≤ 549755813888 := by dsimp only at hx1; omega
    clear h3 h4 h1 hs hx2 hR hT hLW hP hc2 hx1
    dsimp only
    by_cases hfull : 65536 < M.length + xk
    · have t1 : decide ((65536 : Int) < (M.length : Int) + (xk : Int)) = true := decide_eq_true (by omega)
      obtain ⟨X, hX⟩ : ∃ X, X = ((W.setCell ⟨f, 0, none⟩ (.slice none 0 0)).setCell ⟨f, 1, none⟩ (.bool true)).drew := ⟨_, rfl⟩
      have JX : FJ w0 w f v0.ownBlock ls [] 0 (.slice none 0 0) (.slice lB vs.length lc) vs X := by rw [hX]; exact ((J.out.none.store 0 _).store 1 _).keep (Keeps.drew _)
      have FX1 : FrB X f (.slice none 0 0) true := by rw [hX]; exact ((FB.out.set0 _).set1 true)
      have RX : Rd w.heap.size W X := by rw [hX]; exact ((Rd.set _ _ _ (by show f ≠ _; omega)).trans (Rd.set _ _ _ (by show f ≠ _; omega))).trans (Rd.drew _)
      have g5 : X.cell? ⟨w.heap.size + 1 + 1, 0, none⟩ = some (.int .i64 0) := JX.b5.cell
      have k5 : X.frozen? ⟨w.heap.size + 1 + 1, 0, none⟩ = false := JX.b5.frozen
      have JE := JX.err 6
      have FE : FrB (X.setCell ⟨w.heap.size + 2, 0, none⟩ (.int .i64 6)) f (.slice none 0 0) true := FX1.same (Below.heap_setCell X ⟨w.heap.size + 2, 0, none⟩ _ f (by show f ≠ w.heap.size + 2; omega))
      have RE := RX.trans (Rd.set X ⟨w.heap.size + 2, 0, none⟩ (.int .i64 6) (by show w.heap.size + 2 ≠ w.heap.size + 3; omega))
      have EN : ownPostG W4.heap.size (Kq fun k => k = w.heap.size + 3 ∨ (0 < n ∧ ∃ a, A = some a ∧ k = a.block)) (FG w0 w f v0.ownBlock M0 L) (FX w0 w f v0.ownBlock M0 L) (pre ++ [(xa, xp, xk, xe)]) W (.exit 1) { tmps := #[], defers := [] } (X.setCell ⟨w.heap.size + 1 + 1, 0, none⟩ (.int .i64 6)) := by
        refine ⟨by rw [Z4.out]; exact RE.1, _, vs, ls, rfl, ?_, JE, FE⟩
        rw [HS.out]
        unfold stepP
        rw [feedS_full ls P M HX2.out (by omega) (by omega)]
        cases xe <;> rfl
      have EN := Lib.hid EN
      have HX := Lib.hid hX
      clear JX FX1 RX JE FE RE hX
      gi_wp2
      gi_region_elder_o
      all_goals rw [← HX.out]
      all_goals gi_wp2
      all_goals exact EN.out
    · have t1 : decide ((65536 : Int) < (M.length : Int) + (xk : Int)) = false := decide_eq_false (by omega)
      cases xe with
      | true =>
        obtain ⟨v', w1, r1, o1, g1, l1⟩ := run_appB (M := P) (A := xa) (m := xk) (c := c - xp) 27 (J.out.keep (Keeps.drew W)).held (HR.out.later ((Below.refl _ W).drew)) (by omega)
        rw [appB_mark] at r1
        obtain ⟨wB, wc, rfl, _⟩ := o1.shape
        have hvf1 : some f ≠ Value.ownBlock (.slice vB M.length vc) := fun e => (J.out.hb f e.symm).2.1 rfl
        have J1 := (J.out.keep (Keeps.drew W)).app o1 g1 l1
        have F1 : FrB w1 f (.slice vB M.length vc) false := (show FrB W.drew f _ false from FB.out).kept g1 hvf1
        have R1 : Rd w.heap.size W w1 := (Rd.drew W).trans (Rd.row (J.out.keep (Keeps.drew W)).held.row g1 hsW (fun e => by
          rcases (J.out.hb _ e).1 with e2 | e2
          · have := J.out.kl _ e2; omega
          · omega))
        have p4 := J1.b4.cell
        obtain ⟨w2, hw2⟩ : ∃ w2, w2 = w1.alloc (.cells #[.slice wB (M.length + P.length) wc] 27) := ⟨_, rfl⟩
        have z1 := J1.size
        have J2 : FJ w0 w f v0.ownBlock ls (M ++ P) 0 (.slice wB (M.length + P.length) wc) (.slice lB vs.length lc) vs w2 := by
          rw [hw2]
          exact J1.keep (Keeps.of_grown (by omega) (World.grownBy_alloc w1 _ none) (fun r e => by cases e))
        have F2 : FrB w2 f (.slice vB M.length vc) false := by rw [hw2]; exact F1.alloc _
        have R2 : Rd w.heap.size W w2 := by rw [hw2]; exact R1.trans (Rd.alloc _ _ z1)
        have z2 : w1.heap.size ≤ w2.heap.size := by rw [hw2]; simp
        have u2 : w2.cell? ⟨w1.heap.size, 0, none⟩ = some (.slice wB (M.length + P.length) wc) := by rw [hw2]; exact (Boxed.new w1 _ _).cell
        have q4 := J2.b4.cell
        obtain ⟨lv', w3, r3, o3, g3, l3⟩ := run_appL (c := 1) 30 J2.row J2.size u2 rfl (by omega)
        rw [appL_mark] at r3
        obtain ⟨mB, mc, rfl, _⟩ := row_shape o3
        have hls : ∀ k, Value.ownBlock (.slice lB vs.length lc) = some k → w.heap.size + 4 ≤ k := fun k e => (J2.row.lt k e).1
        have b43 : Boxed w3 (w.heap.size + 1) 30 (.slice lB vs.length lc) := J2.b4.kept g3 (fun e => by have := hls _ e.symm; omega)
        have m4 := b43.cell
        have m5 := b43.frozen
        have J4 := J2.line o3 g3 (l3.imp id fun e => ⟨_, e, Nat.le_refl _⟩)
        have F3 : FrB w3 f (.slice vB M.length vc) false := F2.kept g3 (fun e => by have := hls _ e.symm; omega)
        have F4 : FrB (w3.setCell ⟨w.heap.size + 1, 0, none⟩ (.slice mB (vs.length + 1) mc)) f (.slice vB M.length vc) false := F3.same (Below.heap_setCell w3 ⟨w.heap.size + 1, 0, none⟩ _ f (by show f ≠ w.heap.size + 1; omega))
        have R4 := (R2.trans (Rd.row J2.row g3 (by have := J2.size; omega) (fun e => by have := hls _ e; omega))).trans (Rd.set w3 ⟨w.heap.size + 1, 0, none⟩ (.slice mB (vs.length + 1) mc) (by show w.heap.size + 1 ≠ w.heap.size + 3; omega))
        have J5 := J4.store 0 (.slice none 0 0)
        have F5 := F4.set0 (.slice none 0 0)
        have R5 := R4.trans (Rd.set _ ⟨f, 0, none⟩ (.slice none 0 0) (by show f ≠ _; omega))
        have s2 := J4.b2.cell
        have s0 := F4.c0
        have s3 := F4.z0
        have EN : ownPostG W4.heap.size (Kq fun k => k = w.heap.size + 3 ∨ (0 < n ∧ ∃ a, A = some a ∧ k = a.block)) (FG w0 w f v0.ownBlock M0 L) (FX w0 w f v0.ownBlock M0 L) (pre ++ [(xa, xp, xk, true)]) W .normal { tmps := #[], defers := [] } ((w3.setCell ⟨w.heap.size + 1, 0, none⟩ (.slice mB (vs.length + 1) mc)).setCell ⟨f, 0, none⟩ (.slice none 0 0)) := by
          refine ⟨by rw [Z4.out]; exact R5.1, fun k hk => ?_, _, _, _, ls ++ [M ++ P], [], ?_, ⟨by simp, by rw [List.length_append, List.length_append]; simpa using h2b⟩, J5, F5⟩
          · rcases hk with rfl | ⟨h0, a, e, rfl⟩
            · exact R5.2
            · have h8 := HA.out h0 a e
              have h9 := HAL.out h0 a e
              rw [J5.old _ h9 h8.1 h8.2, J.out.old _ h9 h8.1 h8.2]
          · rw [HS.out]
            unfold stepP
            rw [feedS_room ls P M HX2.out (by omega)]
            rfl
        have EN := Lib.hid EN
        have HPl := Lib.hid hPl
        rw [hw2] at r3 q4
        clear J1 F1 R1 J2 F2 R2 o1 g1 l1 hvf1 o3 g3 l3 b43 J4 F3 F4 R4 J5 F5 R5 u2 hls
        rw [hPl] at r1 r3 q4
        clear hPl hw2 z2
        gi_wp2
        gi_region_with_o (fail)
        all_goals gi_wp2
        all_goals exact EN.out
      | false =>
        obtain ⟨v', w1, r1, o1, g1, l1⟩ := run_appB (M := P) (A := xa) (m := xk) (c := c - xp) 27 (J.out.keep (Keeps.drew W)).held (HR.out.later ((Below.refl _ W).drew)) (by omega)
        rw [appB_mark] at r1
        obtain ⟨wB, wc, rfl, _⟩ := o1.shape
        have hvf1 : some f ≠ Value.ownBlock (.slice vB M.length vc) := fun e => (J.out.hb f e.symm).2.1 rfl
        have J1 := (J.out.keep (Keeps.drew W)).app o1 g1 l1
        have F1 : FrB w1 f (.slice vB M.length vc) false := (show FrB W.drew f _ false from FB.out).kept g1 hvf1
        have R1 : Rd w.heap.size W w1 := (Rd.drew W).trans (Rd.row (J.out.keep (Keeps.drew W)).held.row g1 hsW (fun e => by
          rcases (J.out.hb _ e).1 with e2 | e2
          · have := J.out.kl _ e2; omega
          · omega))
        have J2 := J1.store 0 (.slice wB (M.length + P.length) wc)
        have F2 := F1.set0 (.slice wB (M.length + P.length) wc)
        have R2 := R1.trans (Rd.set w1 ⟨f, 0, none⟩ (.slice wB (M.length + P.length) wc) (by show f ≠ _; omega))
        have p9 := J1.b2.cell
        have p0 := F1.c0
        have p2 := F1.z0
        have EN : ownPostG W4.heap.size (Kq fun k => k = w.heap.size + 3 ∨ (0 < n ∧ ∃ a, A = some a ∧ k = a.block)) (FG w0 w f v0.ownBlock M0 L) (FX w0 w f v0.ownBlock M0 L) (pre ++ [(xa, xp, xk, false)]) W .normal { tmps := #[], defers := [] } (w1.setCell ⟨f, 0, none⟩ (.slice wB (M.length + P.length) wc)) := by
          refine ⟨by rw [Z4.out]; exact R2.1, fun k hk => ?_, _, _, vs, ls, M ++ P, ?_, ⟨by rw [List.length_append]; omega, by rw [List.length_append]; omega⟩, J2, F2⟩
          · rcases hk with rfl | ⟨h0, a, e, rfl⟩
            · exact R2.2
            · have h8 := HA.out h0 a e
              have h9 := HAL.out h0 a e
              rw [J2.old _ h9 h8.1 h8.2, J.out.old _ h9 h8.1 h8.2]
          · rw [HS.out]
            unfold stepP
            rw [feedS_room ls P M HX2.out (by omega)]
            rfl
        have EN := Lib.hid EN
        have HPl := Lib.hid hPl
        clear J1 F1 R1 J2 F2 R2 o1 g1 l1 hvf1
        rw [hPl] at r1 EN
        clear hPl
        gi_wp2
        gi_region_with_o (fail)
        all_goals gi_wp2
        all_goals exact EN.out
  case done =>
    rintro D ys W hD hS ⟨v, lv, vs, ls, M, h1, ⟨h2, _⟩, h3, h4⟩ hK
    rw [toldS_all hS] at h1
    obtain ⟨lB, lc, rfl, _⟩ := row_shape h3.row
    have c4 := h3.b4.cell
    have y4 := h3.b4.frozen
    have c5 : W.cell? ⟨w.heap.size + 1 + 1, 0, none⟩ = some (.int .i64 0) := h3.b5.cell
    have y5 : W.frozen? ⟨w.heap.size + 1 + 1, 0, none⟩ = false := h3.b5.frozen
    have J := Lib.hid h3
    have FB := Lib.hid h4
    have h1 := Lib.hid h1
    clear h3 h4
    have hsW : w.heap.size + 4 ≤ W.heap.size := J.out.size
    have mixed : Try.prog.follows .mixedOrders = true := by kernel_rfl
    have hK2 : W.drew.heap[D]? = some (.deferred (some [])) := hK
    have J9 := (J.out.keep (Keeps.drew W)).keep (Keeps.of_grown (by show w.heap.size ≤ W.drew.heap.size; have : W.drew.heap.size = W.heap.size := rfl; omega) (grownBy_putObj' W.drew D (.deferred none)) (fun r e => by cases e; exact ⟨by omega, _, hK2, rfl⟩))
    have F9 : FrB (W.drew.putObj D (.deferred none)) f v false := FB.out.same (World.putObj_heap_other (by omega))
    have q4 := J9.b4.cell
    have q6 := J9.b5.cell
    have H9 := Lib.hid (⟨ls, M, false, v, _, vs, h1.out, rfl, h2, J9, F9⟩ : FeedEnd w0 w f v0.ownBlock M0 L (.returned (.tuple #[.slice lB vs.length lc, .int .i64 0])) (W.drew.putObj D (.deferred none)))
    have Q4 := Lib.hid q4
    have Q6 := Lib.hid q6
    have HK2 := Lib.hid hK2
    clear J9 F9 q4 q6 hK2
    gi_wp2
    gi_region_elder_o
    all_goals rw [boxed_same J.out.b4, show (⟨w.heap.size + 1 + 1, 0, none⟩ : Addr) = ⟨w.heap.size + 2, 0, none⟩ from rfl, boxed_same J.out.b5]
    all_goals gi_wp2
    all_goals rw [Exit.noGoto_ret]
    all_goals refine ⟨by simp, .inl ⟨_, _, rfl, run_takeDeferred HK2.out, .tuple #[.slice lB vs.length lc, .int .i64 0], ?_, H9.out⟩⟩
    all_goals simp [results, Try.f11, go_sem, Q4.out, Q6.out]
  case stop =>
    rintro D cd pre W hD hS ⟨lv, vs, ls, rfl, h1, h3, h4⟩ hK
    have h1 := toldS_stop hS h1
    obtain ⟨lB, lc, rfl, _⟩ := row_shape h3.row
    have c4 := h3.b4.cell
    have y4 := h3.b4.frozen
    have c5 : W.cell? ⟨w.heap.size + 1 + 1, 0, none⟩ = some (.int .i64 6) := h3.b5.cell
    have y5 : W.frozen? ⟨w.heap.size + 1 + 1, 0, none⟩ = false := h3.b5.frozen
    have J := Lib.hid h3
    have FB := Lib.hid h4
    have h1 := Lib.hid h1
    clear h3 h4
    have hsW : w.heap.size + 4 ≤ W.heap.size := J.out.size
    have mixed : Try.prog.follows .mixedOrders = true := by kernel_rfl
    have hK2 : W.drew.heap[D]? = some (.deferred (some [])) := hK
    have J9 := (J.out.keep (Keeps.drew W)).keep (Keeps.of_grown (by show w.heap.size ≤ W.drew.heap.size; have : W.drew.heap.size = W.heap.size := rfl; omega) (grownBy_putObj' W.drew D (.deferred none)) (fun r e => by cases e; exact ⟨by omega, _, hK2, rfl⟩))
    have F9 : FrB (W.drew.putObj D (.deferred none)) f (.slice none 0 0) true := FB.out.same (World.putObj_heap_other (by omega))
    have q4 := J9.b4.cell
    have q6 := J9.b5.cell
    have H9 := Lib.hid (⟨ls, [], true, (.slice none 0 0), _, vs, h1.out, rfl, (by simp), J9, F9⟩ : FeedEnd w0 w f v0.ownBlock M0 L (.returned (.tuple #[.slice lB vs.length lc, .int .i64 6])) (W.drew.putObj D (.deferred none)))
    have Q4 := Lib.hid q4
    have Q6 := Lib.hid q6
    have HK2 := Lib.hid hK2
    clear J9 F9 q4 q6 hK2
    gi_wp2
    gi_region_elder_o
    all_goals rw [boxed_same J.out.b4, show (⟨w.heap.size + 1 + 1, 0, none⟩ : Addr) = ⟨w.heap.size + 2, 0, none⟩ from rfl, boxed_same J.out.b5]
    all_goals gi_wp2
    all_goals rw [Exit.noGoto_ret]
    all_goals refine ⟨by simp, .inl ⟨_, _, rfl, run_takeDeferred HK2.out, .tuple #[.slice lB vs.length lc, .int .i64 6], ?_, H9.out⟩⟩
    all_goals simp [results, Try.f11, go_sem, Q4.out, Q6.out]
end Go.Proofs.Ytfmfooocfcdalaa
