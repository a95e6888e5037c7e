/- Write, Cut, Sync: the walks. No condition but a bound on what is loose. -/
import Derived.Test.YtgnomopiofpknaaWrite
namespace Go.Proofs.Ytgnomopiofpknaa
open Go.RowKit

theorem idWrite1 (args : Array Value) (u : World) : (callFunc 35 args).run Try.prog u = .ok (.enter 35 args) u := by simp [callFunc, Try.func35, Try.f35]
theorem idCut1 (args : Array Value) (u : World) : (callFunc 40 args).run Try.prog u = .ok (.enter 40 args) u := by simp [callFunc, Try.func40, Try.f40]
theorem Dsk.c1 {w0 w : World} {d : Nat} {F : Nat → Prop} {S : Dk} (D : Dsk w0 d F S w) : w.cell? ⟨d, 1, none⟩ = some (.bool S.off) := by
  obtain ⟨_, _, _, _, _, _, D, _⟩ := D
  exact D.cells.2.1

set_option maxRecDepth 100000 in
set_option maxHeartbeats 4000000 in
theorem sync_any {w0 w : World} {d : Nat} {F : Nat → Prop} {S : Dk} (D : Dsk w0 d F S w) (hn : S.cnt ≤ 1073741823) (f : Int) :
    Calls Try.prog 15 #[.pointer (some ⟨d, 0, none⟩), .int .i64 f] w fun e W => e = .returned (.int .i64 (S.sync f).1) ∧ Did w0 d F w (S.sync f).2 W := by
  have HA := Lib.hid (ask_any D.c1 f)
  have HD := Lib.hid D
  clear D
  by_cases h : S.ask f = 0
  · obtain ⟨i, rfl, hi⟩ := Dk.ask_ok h
    have es : S.sync (i : Int) = S.burn i (S.at i).settle := by
      unfold Dk.sync
      rw [if_neg (fun q => q h)]
      rfl
    rw [es]
    have CB := Lib.hid (burn_any HD.out i hi _ _ #[] (filSettle HD.out.ok hi hn) idSettle (HD.out.ok.less.put i (HD.out.ok.at_ i).settle))
    rw [h] at HA
    clear h es
    go_enter Try.func15, Try.ntmps15
    go_wp2_with fail
    refine (HA.out).mono ?_
    rintro e w' ⟨rfl, rfl⟩
    go_wp2_with fail
    refine (CB.out).mono ?_
    rintro e W ⟨rfl, G⟩
    have HG := Lib.hid G
    clear G
    go_wp2_with fail
    go_ret
    exact ⟨rfl, HG.out⟩
  · have es : S.sync f = (S.ask f, S) := by
      unfold Dk.sync
      rw [if_pos h]
    rw [es]
    obtain ⟨q, hq⟩ : ∃ q, S.ask f = q := ⟨_, rfl⟩
    rw [hq] at HA h ⊢
    have t1 : (q != 0) = true := by simp [h]
    have t2 : decide (q = 0) = false := decide_eq_false h
    go_enter Try.func15, Try.ntmps15
    go_wp2_with fail
    refine (HA.out).mono ?_
    rintro e w' ⟨rfl, rfl⟩
    go_wp2_with fail
    go_ret
    exact ⟨rfl, Did.refl HD.out⟩
theorem sync_nil (w : World) (f : Int) : Calls Try.prog 15 #[.pointer none, .int .i64 f] w fun e w' => e = .returned (.int .i64 2) ∧ w' = w := by
  go_enter Try.func15, Try.ntmps15
  go_wp2_with fail
  refine (ask_nil w f).mono ?_
  rintro e w' ⟨rfl, rfl⟩
  go_wp2_with fail
  go_ret
  exact ⟨rfl, rfl⟩

set_option maxRecDepth 100000 in
set_option maxHeartbeats 4000000 in
theorem write_any {w0 w : World} {d : Nat} {F : Nat → Prop} {S : Dk} (D : Dsk w0 d F S w) (hn : S.cnt ≤ 1073741823) (f : Int) {A : Option Addr} {n c : Nat} {L : List Nat} (hL : Bs w A n L) (hA : 0 < n → ∀ a, A = some a → a.block ≠ d) (hc : n ≤ c) (hcm : c ≤ 9223372036854775807) :
    Calls Try.prog 16 #[.pointer (some ⟨d, 0, none⟩), .int .i64 f, .slice A n c] w fun e W => e = .returned (.int .i64 (S.write f L).1) ∧ Did w0 d F w (S.write f L).2 W := by
  have b1 : Below w.heap.size w (w.alloc (.cells #[.slice A n c] 33)) := (Below.refl _ _).alloc (Nat.le_refl _) _
  have R1 := Ro.new w 33 [.slice A n c]
  obtain ⟨w1, hw1⟩ : ∃ w1, w.alloc (.cells #[.slice A n c] 33) = w1 := ⟨_, rfl⟩
  rw [hw1] at b1
  have R1' : Ro w1 w.heap.size 33 [.slice A n c] := by rw [← hw1]; exact R1
  have D1 := D.later b1
  have HA := Lib.hid (ask_any D1.c1 f)
  have HD := Lib.hid D
  have HB := Lib.hid b1
  have HR := Lib.hid R1'
  have HL := Lib.hid hL
  have hlen := hL.len
  have hdl := D.at_.2.2
  have HX := Lib.hid hA
  clear D D1 b1 R1 R1' hL hA
  by_cases h : S.ask f = 0
  · obtain ⟨i, rfl, hi⟩ := Dk.ask_ok h
    have es : S.write (i : Int) L = if S.room < L.length then (7, S) else S.burn i ((S.at i).add (.w L)) := by
      unfold Dk.write
      rw [if_neg (fun q => q h)]
      rfl
    rw [es]
    rw [h] at HA
    obtain ⟨rm, hrm⟩ : ∃ rm, S.room = rm := ⟨_, rfl⟩
    rw [hrm]
    have CR : Hid (∀ u : After w1, Calls Try.prog 13 #[.pointer (some ⟨d, 0, none⟩)] u.w fun e w' => e = .returned (.int .i64 (rm : Nat)) ∧ Below u.w.heap.size u.w w') := Lib.hid fun u => by
      rw [← hrm]
      exact room_any ((HD.out.later HB.out).later u.below)
    have CB : Hid (¬ rm < L.length → ∀ u : After w1, Calls Try.prog 33 #[.pointer (some ⟨d, 0, none⟩), .func (.func 35) #[] #[.pointer (some ⟨w.heap.size, 0, none⟩)], .int .i64 (i : Nat)] u.w fun e W => e = .returned (.int .i64 (S.burn i ((S.at i).add (.w L))).1) ∧ Did w0 d F w (S.burn i ((S.at i).add (.w L))).2 W) := Lib.hid fun hr u => by
      have g : Below w.heap.size w u.w := HB.out.trans (u.below.mono HB.out.size)
      have Du := HD.out.later g
      have hro := Dk.room_ok' HD.out.ok (i := i) (n := L.length) (by omega)
      have hm := HD.out.ok.most
      refine (burn_any Du i hi _ _ #[.pointer (some ⟨w.heap.size, 0, none⟩)] (filWrite HD.out.ok hi hn (HR.out.later u.below) (by omega) (HL.out.later g) HX.out (by omega) hc) idWrite1 (HD.out.ok.less.put i ((HD.out.ok.at_ i).addw HL.out.byt hro))).mono fun e W ⟨h1, h2⟩ => ⟨h1, Did.after HD.out g h2⟩
    have bx : ∀ u : After w1, u.w.cell? ⟨w.heap.size, 0, none⟩ = some (.slice A n c) := fun u => (HR.out.later u.below).cell rfl
    clear h es hrm
    go_enter Try.func16, Try.ntmps16
    go_wp2_with fail
    refine (HA.out).mono ?_
    rintro e w' ⟨rfl, rfl⟩
    go_wp2_with fail
    refine wp_region_after (by kernel_rfl) (by kernel_rfl) ?_
    repeat (go_big_quiet_step (exact after_call (CR.out _)))
    refine wpQuiet_nil ?_
    rintro _ ⟨u, rfl⟩
    by_cases hr : rm < L.length
    · have t1 : decide ((rm : Int) < (n : Int)) = true := decide_eq_true (by omega)
      have t2 : decide ((n : Int) > (rm : Int)) = true := decide_eq_true (by omega)
      have t3 : decide (rm < n) = true := decide_eq_true (by omega)
      go_wp2_with fail
      go_ret
      try rw [if_pos hr]
      exact ⟨rfl, Did.later HD.out (HB.out.trans (u.below.mono HB.out.size))⟩
    · have t1 : decide ((rm : Int) < (n : Int)) = false := decide_eq_false (by omega)
      have t2 : decide ((n : Int) > (rm : Int)) = false := decide_eq_false (by omega)
      have t3 : decide (rm < n) = false := decide_eq_false (by omega)
      have CB2 := Lib.hid (CB.out hr u)
      go_wp2_with fail
      refine (CB2.out).mono ?_
      rintro e W ⟨rfl, G⟩
      have HG := Lib.hid G
      clear G
      go_wp2_with fail
      go_ret
      try rw [if_neg hr]
      exact ⟨rfl, HG.out⟩
  · have es : S.write f L = (S.ask f, S) := by
      unfold Dk.write
      rw [if_pos h]
    rw [es]
    obtain ⟨q, hq⟩ : ∃ q, S.ask f = q := ⟨_, rfl⟩
    rw [hq] at HA h ⊢
    have t1 : (q != 0) = true := by simp [h]
    have t2 : decide (q = 0) = false := decide_eq_false h
    go_enter Try.func16, Try.ntmps16
    go_wp2_with fail
    refine (HA.out).mono ?_
    rintro e w' ⟨rfl, rfl⟩
    go_wp2_with fail
    go_ret
    exact ⟨rfl, Did.later HD.out HB.out⟩
theorem write_nil (w : World) (f : Int) (A : Option Addr) (n c : Nat) : Calls Try.prog 16 #[.pointer none, .int .i64 f, .slice A n c] w fun e w' => e = .returned (.int .i64 2) ∧ Below w.heap.size w w' := by
  go_enter Try.func16, Try.ntmps16
  go_wp2_with fail
  refine (ask_nil _ f).mono ?_
  rintro e w' ⟨rfl, rfl⟩
  go_wp2_with fail
  go_ret
  exact ⟨rfl, (Below.refl _ _).alloc (Nat.le_refl _) _⟩
theorem cut_nil (w : World) (f n : Int) : Calls Try.prog 23 #[.pointer none, .int .i64 f, .int .i64 n] w fun e w' => e = .returned (.int .i64 2) ∧ Below w.heap.size w w' := by
  go_enter Try.func23, Try.ntmps23
  go_wp2_with fail
  refine (ask_nil _ f).mono ?_
  rintro e w' ⟨rfl, rfl⟩
  go_wp2_with fail
  go_ret
  exact ⟨rfl, (Below.refl _ _).alloc (Nat.le_refl _) _⟩

set_option maxRecDepth 100000 in
set_option maxHeartbeats 4000000 in
theorem cut_any {w0 w : World} {d : Nat} {F : Nat → Prop} {S : Dk} (D : Dsk w0 d F S w) (hn : S.cnt ≤ 1073741823) (f n : Int) :
    Calls Try.prog 23 #[.pointer (some ⟨d, 0, none⟩), .int .i64 f, .int .i64 n] w fun e W => e = .returned (.int .i64 (S.cut f n).1) ∧ Did w0 d F w (S.cut f n).2 W := by
  have b1 : Below w.heap.size w (w.alloc (.cells #[.int .i64 n] 3)) := (Below.refl _ _).alloc (Nat.le_refl _) _
  have R1 := Ro.new w 3 [.int .i64 n]
  obtain ⟨w1, hw1⟩ : ∃ w1, w.alloc (.cells #[.int .i64 n] 3) = w1 := ⟨_, rfl⟩
  rw [hw1] at b1
  have R1' : Ro w1 w.heap.size 3 [.int .i64 n] := by rw [← hw1]; exact R1
  have D1 := D.later b1
  have HA := Lib.hid (ask_any D1.c1 f)
  have HD := Lib.hid D
  have HB := Lib.hid b1
  have HR := Lib.hid R1'
  have hdl := D.at_.2.2
  clear D D1 b1 R1 R1'
  by_cases h : S.ask f = 0
  · obtain ⟨i, rfl, hi⟩ := Dk.ask_ok h
    have es : S.cut (i : Int) n = if n < 0 ∨ ((S.at i).at.length : Int) < n then (1, S) else S.burn i ((S.at i).add (.c n.toNat)) := by
      unfold Dk.cut
      rw [if_neg (fun q => q h)]
      rfl
    rw [es]
    rw [h] at HA
    obtain ⟨sz, hsz⟩ : ∃ sz, (S.at i).at.length = sz := ⟨_, rfl⟩
    rw [hsz]
    have CS : Hid (w1.drew.cell? ⟨d, 3 + 3 * i + 2, none⟩ = some (.int .i64 (sz : Nat))) := Lib.hid (by
      obtain ⟨_, _, _, _, _, _, D, _⟩ := HD.out.later HB.out
      have := D.ro.cell (dkV_size (S := S) hi).1
      rw [hsz] at this
      exact this)
    have CB : Hid (¬ (n < 0 ∨ (sz : Int) < n) → Calls Try.prog 33 #[.pointer (some ⟨d, 0, none⟩), .func (.func 40) #[] #[.pointer (some ⟨w.heap.size, 0, none⟩)], .int .i64 (i : Nat)] w1.drew fun e W => e = .returned (.int .i64 (S.burn i ((S.at i).add (.c n.toNat))).1) ∧ Did w0 d F w (S.burn i ((S.at i).add (.c n.toNat))).2 W) := Lib.hid fun hr => by
      have g : Below w.heap.size w w1.drew := HB.out.drew
      have Du := HD.out.later g
      have en : n = ((n.toNat : Nat) : Int) := by omega
      have HR2 : Ro w1.drew w.heap.size 3 [.int .i64 (n.toNat : Nat)] := by rw [← en]; exact HR.out.later (Below.refl _ _).drew
      refine (burn_any Du i hi _ _ #[.pointer (some ⟨w.heap.size, 0, none⟩)] (filCut HD.out.ok hi hn HR2 (by omega) (by omega)) idCut1 (HD.out.ok.less.put i ((HD.out.ok.at_ i).addc (by omega)))).mono fun e W ⟨h1, h2⟩ => ⟨h1, Did.after HD.out g h2⟩
    have bx : w1.drew.cell? ⟨w.heap.size, 0, none⟩ = some (.int .i64 n) := (HR.out.later (Below.refl _ _).drew).cell rfl
    clear h es hsz
    by_cases h1 : n < 0
    · have t1 : decide (n < 0) = true := decide_eq_true h1
      go_enter Try.func23, Try.ntmps23
      go_wp2_with fail
      refine (HA.out).mono ?_
      rintro e w' ⟨rfl, rfl⟩
      go_wp2_with fail
      go_region
      go_wp2_with fail
      go_ret
      try rw [if_pos (Or.inl h1)]
      exact ⟨rfl, Did.later HD.out HB.out.drew⟩
    · have t1 : decide (n < 0) = false := decide_eq_false h1
      by_cases h2 : (sz : Int) < n
      · have t2 : decide ((sz : Int) < n) = true := decide_eq_true h2
        have t3 : decide (n > (sz : Int)) = true := decide_eq_true h2
        rcases hi with rfl | rfl
        · have CS0 : w1.drew.cell? ⟨d, 5, none⟩ = some (.int .i64 (sz : Nat)) := CS.out
          go_enter Try.func23, Try.ntmps23
          go_wp2_with fail
          refine (HA.out).mono ?_
          rintro e w' ⟨rfl, rfl⟩
          go_wp2_with fail
          go_region
          go_wp2_with fail
          go_ret
          try rw [if_pos (Or.inr h2)]
          exact ⟨rfl, Did.later HD.out HB.out.drew⟩
        · have CS0 : w1.drew.cell? ⟨d, 8, none⟩ = some (.int .i64 (sz : Nat)) := CS.out
          go_enter Try.func23, Try.ntmps23
          go_wp2_with fail
          refine (HA.out).mono ?_
          rintro e w' ⟨rfl, rfl⟩
          go_wp2_with fail
          go_region
          go_wp2_with fail
          go_ret
          try rw [if_pos (Or.inr h2)]
          exact ⟨rfl, Did.later HD.out HB.out.drew⟩
      · have t2 : decide ((sz : Int) < n) = false := decide_eq_false h2
        have t3 : decide (n > (sz : Int)) = false := decide_eq_false h2
        have CB2 := Lib.hid (CB.out (by omega))
        have hno : ¬ (n < 0 ∨ (sz : Int) < n) := by omega
        rcases hi with rfl | rfl
        · have CS0 : w1.drew.cell? ⟨d, 5, none⟩ = some (.int .i64 (sz : Nat)) := CS.out
          go_enter Try.func23, Try.ntmps23
          go_wp2_with fail
          refine (HA.out).mono ?_
          rintro e w' ⟨rfl, rfl⟩
          go_wp2_with fail
          go_region
          go_wp2_with fail
          refine (CB2.out).mono ?_
          rintro e W ⟨rfl, G⟩
          have HG := Lib.hid G
          clear G
          go_wp2_with fail
          go_ret
          try rw [if_neg hno]
          exact ⟨rfl, HG.out⟩
        · have CS0 : w1.drew.cell? ⟨d, 8, none⟩ = some (.int .i64 (sz : Nat)) := CS.out
          go_enter Try.func23, Try.ntmps23
          go_wp2_with fail
          refine (HA.out).mono ?_
          rintro e w' ⟨rfl, rfl⟩
          go_wp2_with fail
          go_region
          go_wp2_with fail
          refine (CB2.out).mono ?_
          rintro e W ⟨rfl, G⟩
          have HG := Lib.hid G
          clear G
          go_wp2_with fail
          go_ret
          try rw [if_neg hno]
          exact ⟨rfl, HG.out⟩
  · have es : S.cut f n = (S.ask f, S) := by
      unfold Dk.cut
      rw [if_pos h]
    rw [es]
    obtain ⟨q, hq⟩ : ∃ q, S.ask f = q := ⟨_, rfl⟩
    rw [hq] at HA h ⊢
    have t1 : (q != 0) = true := by simp [h]
    have t2 : decide (q = 0) = false := decide_eq_false h
    go_enter Try.func23, Try.ntmps23
    go_wp2_with fail
    refine (HA.out).mono ?_
    rintro e w' ⟨rfl, rfl⟩
    go_wp2_with fail
    go_ret
    exact ⟨rfl, Did.later HD.out HB.out⟩
end Go.Proofs.Ytgnomopiofpknaa
