/- The reference's Branch of a hash that is there. No condition. -/
import Derived.Test.YtdenibigefchpaaDoorRefFoldE
namespace Go.Proofs.YtdenibigefchpaaDoor
open Go.RowKit

section
variable {w0 w : World} {ops : Array Oper} {rest : List Oper} {o : Oper} {a : Act} {Q : Exit → Act → World → Prop} {b : Nat}
theorem wpList_appG5 (hgd : o.guard = none) (s x : Operand) (ho : o.op = .call { callee := .builtin .append, args := #[s, x], argTypes := #[22, 22] })
    {v : Value} {n : Nat} {l : List (List Nat)} (hs : a.eval s = v) (hown : OwnG w0 v n l w) {h : List Nat} (hx : a.eval x = .slice (some ⟨b, 0, none⟩) 1 1) (hk : h.length = 32 ∧ AllB h) (hr : Ro w b 24 (vals h)) (hlen : n + 1 ≤ 1073741824)
    (hw : ∀ A' c' w', n + 1 ≤ c' → OwnG w0 (.slice A' (n + 1) c') (n + 1) (l ++ [h]) w' → w.grownBy w' v.ownBlock → (Value.ownBlock (.slice A' (n + 1) c') = v.ownBlock ∨ Value.ownBlock (.slice A' (n + 1) c') = some w.heap.size) → wpList Tryd.prog ops Q rest (a.put o.dst (.slice A' (n + 1) c')) w') : wpList Tryd.prog ops Q (o :: rest) a w := by
  refine wpList_plain hgd fun K hK => ?_
  obtain ⟨A', c', w', r1, r2, r3, r4, r5⟩ := run_appG (w0 := w0) (w := w) (m := [h]) (k := 1) (c := 1) (b := b) (q := 0) o.type hown rfl (okG_one hk) (fun j u hj => by rw [gsV_one] at hj; rw [Nat.zero_add]; exact hr.cell hj) hlen
  have e := hK _ _ (hw A' c' w' r4 r2 r3 r5)
  unfold Oper.wp
  simp [execOp, ho, resolve, invoke, builtin, hs, hx, r1, Result.andThen]
  exact e
end
/-- Between two rows: the branch so far, and the row, which lie apart. -/
structure BrA (w : World) (ids : List (List Nat)) (k0 n j q : Nat) (v : Value) (x : Rw) (wr : World) : Prop where
  own : ∃ bs, OwnG w v j bs wr ∧ bs ++ branch joinS x.l q = branch joinS ids k0
  gs : Gs wr x.A x.n x.l
  far : ∀ a, x.A = some a → v.ownBlock ≠ some a.block
  le : j + x.n ≤ n
  lt : q < x.n

set_option maxRecDepth 100000 in
set_option maxHeartbeats 4000000 in
theorem refBranch_any {A : Option Addr} {n c k : Nat} {l : List (List Nat)} (w : World) (hn : n ≤ 1000000) (hk : k < n) (hL : Gs w A n l) : Calls Tryd.prog 11 #[.slice A n c, .int .i64 (k : Nat)] w fun e w' => ∃ B m d, e = .returned (.tuple #[.slice B m d, .int .i64 0]) ∧ OwnG w (.slice B m d) m (branch joinS l k) w' := by
  have t1 : decide ((k : Int) < 0) = false := decide_eq_false (by omega)
  have t2 : decide ((n : Int) ≤ (k : Int)) = false := decide_eq_false (by omega)
  have t3 : decide (n ≤ k) = false := decide_eq_false (by omega)
  have F0 : Hid (BrA w l k n 0 k (.slice none 0 0) ⟨A, n, c, l⟩ w) := Lib.hid ⟨⟨[], OwnG.none_ (Below.refl _ _), rfl⟩, hL, fun a e => (by intro h; cases h), by show 0 + n ≤ n; omega, hk⟩
  clear hL
  go_enter Tryd.func11, Tryd.ntmps11
  go_wp2_with fail
  go_loopw [1, 6, 7] (fun kv v rv wr => ∃ (j q : Nat) (x : Rw), kv = .int .i64 (q : Nat) ∧ rv = .slice x.A x.n x.c ∧ BrA w l k n j q v x wr) (fun _ _ rv _ => match rv with | .slice _ m _ => m | _ => 0)
  case atStart => exact ⟨0, k, ⟨A, n, c, l⟩, rfl, rfl, F0.out⟩
  case round =>
    clear F0 t1 t2 t3
    obtain ⟨j, q, ⟨A', m, c', l'⟩, rfl, rfl, ⟨⟨bs, O, hb⟩, hg, hfar, hle, hlt⟩⟩ := hrel
    dsimp only at hb hg hfar hle hlt
    obtain ⟨vA, vc, rfl, _⟩ := O.shape
    have HG := Lib.hid hg
    have HM := Lib.hid hg.len
    have HO := Lib.hid O
    have HB := Lib.hid hb
    have HF := Lib.hid hfar
    clear hg O hb hfar
    by_cases h1 : 1 < m
    · have t1 : decide ((1 : Int) < (m : Int)) = true := decide_eq_true (by omega)
      obtain ⟨r, hr⟩ : ∃ r, q / 2 = r := ⟨_, rfl⟩
      have d1 : (q : Int) / 2 = (r : Int) := by omega
      have BS : Hid ((bs ++ [mate l' q]) ++ branch joinS (up joinS l') r = branch joinS l k) := Lib.hid (by
        rw [← HB.out, branch_up joinS (l := l') (by rw [HM.out]; exact h1), hr, List.append_assoc]; rfl)
      have okm : Hid ((mate l' q).length = 32 ∧ AllB (mate l' q)) := Lib.hid (by
        unfold mate
        split
        · split
          · exact nt_ok HG.out.ok (by assumption)
          · exact nt_ok HG.out.ok (by rw [HM.out]; exact hlt)
        · exact nt_ok HG.out.ok (by rw [HM.out]; omega))
      have ll := Lib.hid (show (vals (mate l' q)).length = 32 by rw [vals_length]; exact okm.out.1)
      have fin : ∀ A6 c6 w6, OwnG w (.slice A6 (j + 1) c6) (j + 1) (bs ++ [mate l' q]) w6 → ∀ A3 c3 w3, OwnG w6 (.slice A3 ((m + 1) / 2) c3) ((m + 1) / 2) (up joinS l') w3 → BrA w l k n (j + 1) r (.slice A6 (j + 1) c6) ⟨A3, (m + 1) / 2, c3, up joinS l'⟩ w3 := fun A6 c6 w6 O6 A3 c3 w3 O3 =>
        ⟨⟨_, O6.later O3.bel, BS.out⟩, O3.reads, fun a e e2 => by
          have h3 := (O3.new a.block (by replace e : A3 = some a := e; subst e; rfl)).1
          have h6 := (O6.new a.block e2).2
          omega, by show j + 1 + (m + 1) / 2 ≤ n; omega, by show r < (m + 1) / 2; omega⟩
      have FIN := Lib.hid fin
      clear fin BS hr HB
      by_cases he : q % 2 = 0
      · have e1 : (((q : Int) % 2) == 0) = true := by rw [beq_iff_eq]; omega
        have y9 : IntKind.i64.wrap ((q : Int) + 1) = (q : Int) + 1 := by rw [IntWalk.i64_in _ (by omega)]
        obtain ⟨p, hp⟩ : ∃ p, min (q + 1) (m - 1) = p := ⟨_, rfl⟩
        have MT : nt l' p = mate l' q := by
          unfold mate
          rw [if_pos he, HM.out]
          by_cases h2 : q + 1 < m
          · rw [if_pos h2, show p = q + 1 by omega]
          · rw [if_neg h2, show p = q by omega]
        have CP := at_any (k := q + 1) (m := p) (c := c') wr hp (by omega) (by omega) HG.out
        rw [show ((q + 1 : Nat) : Int) = (q : Int) + 1 by omega, MT] at CP
        have HCP := Lib.hid CP
        obtain ⟨x, hx⟩ : ∃ x, mate l' q = x := ⟨_, rfl⟩
        rw [hx] at HCP FIN okm ll
        clear CP MT hp hx
        go_wp2_with fail
        refine HCP.out.mono ?_
        rintro e w1 ⟨rfl, hb1⟩
        have O1 := Lib.hid ((HO.out.later hb1).later ((Below.refl _ _).alloc (Nat.le_refl _) (.cells (vals x).toArray 24)))
        have G1 := Lib.hid ((HG.out.later hb1).later ((Below.refl _ _).alloc (Nat.le_refl _) (.cells (vals x).toArray 24)))
        clear hb1 HCP
        go_wp2_with (first | (refine wpList_litG rfl (.tmp 27) rfl rfl ll.out ?_) | (refine wpList_appG5 rfl (.tmp 23) (.tmp 28) rfl rfl O1.out rfl okm.out (Ro.new _ _ _) (by omega) ?_))
        intro A6 c6 w6 hc6 O6 g6 n6
        have G6 := Lib.hid (G1.out.far g6 (fun a e e2 => HF.out a e e2.symm))
        have HO6 := Lib.hid O6
        clear O6 g6 n6 O1 G1
        go_wp2_with fail
        refine (refAbove_any w6 (by omega) G6.out).mono ?_
        rintro e w3 ⟨A3, c3, rfl, O3⟩
        have F3 := Lib.hid (FIN.out A6 c6 w6 HO6.out A3 c3 w3 O3)
        clear O3 FIN
        go_wp2_with fail
        exact ⟨⟨j + 1, r, ⟨A3, (m + 1) / 2, c3, up joinS l'⟩, rfl, rfl, F3.out⟩, by show (m + 1) / 2 < m; omega⟩
      · obtain ⟨p, rfl⟩ : ∃ p, q = p + 1 := ⟨q - 1, by omega⟩
        have e1 : (((p + 1 : Nat) : Int) % 2 == 0) = false := by rw [beq_eq_false_iff_ne]; omega
        have y9 : IntKind.i64.wrap (((p + 1 : Nat) : Int) - 1) = (p : Int) := by rw [IntWalk.i64_in _ (by omega)]; omega
        have d2 : ((p : Int) + 1) / 2 = (r : Int) := by omega
        have MT : nt l' p = mate l' (p + 1) := by
          unfold mate
          rw [if_neg he, show p + 1 - 1 = p from rfl]
        obtain ⟨b, o, rfl, hb, _⟩ := HG.out.cel (by omega)
        have ad := add_at b o
        have R0 := (HG.out.at_ (k := p) (by omega)).2
        rw [MT] at R0
        have HR0 := Lib.hid R0
        obtain ⟨x, hx⟩ : ∃ x, mate l' (p + 1) = x := ⟨_, rfl⟩
        rw [hx] at HR0 FIN okm ll
        have O1 := Lib.hid (HO.out.later ((Below.refl _ _).alloc (Nat.le_refl _) (.cells (vals x).toArray 24)))
        have G1 := Lib.hid (HG.out.later ((Below.refl _ _).alloc (Nat.le_refl _) (.cells (vals x).toArray 24)))
        clear R0 MT hx hb
        go_wp2_with (first | (refine wpList_load_part rfl (.tmp 34) rfl rfl row26 HR0.out ll.out ?_) | (refine wpList_litG rfl (.tmp 35) rfl rfl ll.out ?_) | (refine wpList_appG5 rfl (.tmp 30) (.tmp 36) rfl rfl O1.out rfl okm.out (Ro.new _ _ _) (by omega) ?_))
        intro A6 c6 w6 hc6 O6 g6 n6
        have G6 := Lib.hid (G1.out.far g6 (fun a e e2 => HF.out a e e2.symm))
        have HO6 := Lib.hid O6
        clear O6 g6 n6 O1 G1 HR0
        go_wp2_with fail
        refine (refAbove_any w6 (by omega) G6.out).mono ?_
        rintro e w3 ⟨A3, c3, rfl, O3⟩
        have F3 := Lib.hid (FIN.out A6 c6 w6 HO6.out A3 c3 w3 O3)
        clear O3 FIN
        go_wp2_with fail
        exact ⟨⟨j + 1, r, ⟨A3, (m + 1) / 2, c3, up joinS l'⟩, congrArg (Value.int IntKind.i64) d2, rfl, F3.out⟩, by show (m + 1) / 2 < m; omega⟩
    · have t1 : decide ((1 : Int) < (m : Int)) = false := decide_eq_false (by omega)
      have e := HB.out
      rw [branch_short joinS (l := l') (by rw [HM.out]; omega), List.append_nil] at e
      rw [e] at HO
      have hj := HO.out.len
      clear e
      go_wp2_with fail
      go_ret2
      exact ⟨_, _, _, rfl, HO.out⟩

set_option maxRecDepth 100000 in
set_option maxHeartbeats 1000000 in
theorem refBranch_bad {A : Option Addr} {n c : Nat} {k : Int} (w : World) (hk : k < 0 ∨ (n : Int) ≤ k) : Calls Tryd.prog 11 #[.slice A n c, .int .i64 k] w fun e w' => e = .returned (.tuple #[.slice none 0 0, .int .i64 1]) ∧ Below w.heap.size w w' := by
  by_cases h0 : k < 0
  · have t1 : decide (k < 0) = true := decide_eq_true h0
    go_enter Tryd.func11, Tryd.ntmps11
    go_wp2_with fail
    go_ret2
    exact ⟨rfl, Below.refl _ _⟩
  · have t1 : decide (k < 0) = false := decide_eq_false h0
    have t2 : decide ((n : Int) ≤ k) = true := decide_eq_true (by omega)
    go_enter Tryd.func11, Tryd.ntmps11
    go_wp2_with fail
    go_ret2
    exact ⟨rfl, Below.refl _ _⟩
end Go.Proofs.YtdenibigefchpaaDoor
