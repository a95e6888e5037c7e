/- New; stands. No condition but bounds. -/
import Derived.Test.YtgnomopiofpknaaStr
namespace Go.Proofs.Ytgnomopiofpknaa
open Go.RowKit

def nilS : Value := .slice none 0 0
theorem build_disk (m : Nat) (w : World) : (Instr.build 60 #[(0, .int .i64 (m : Int)), (2, .int .i64 (-1))]).run Try.prog w = .ok (.agg (dkV (newD m) nilS nilS nilS nilS).toArray) w := by kernel_rfl
theorem newD_ok {m : Nat} (h : m ≤ 4194304) : (newD m).Ok := ⟨h, Nat.zero_le _, Nat.zero_le _, ⟨by show (-1 : Int) ≤ -1; omega, by show (-1 : Int) ≤ _; omega⟩, ⟨allB_nil, fun b hb => by cases hb⟩, ⟨allB_nil, fun b hb => by cases hb⟩⟩
theorem FlAt.new {w0 w : World} (b : Below w0.heap.size w0 w) : FlAt w0 (fun _ => False) nilS nilS ⟨[], []⟩ w :=
  ⟨⟨World.ownsRow_nil _ _ _ _, allB_nil, b⟩, OwnRw.none_ b, fun k e => (by cases e), fun k e => (by cases e), fun k e => e.elim⟩
theorem Dsk.new {w0 w : World} (b : Below w0.heap.size w0 w) {m : Nat} (h : m ≤ 4194304) : Dsk w0 w.heap.size (fun k => k = w.heap.size) (newD m) (w.alloc (.cells (dkV (newD m) nilS nilS nilS nilS).toArray 60)) := by
  have b1 := b.alloc b.size (.cells (dkV (newD m) nilS nilS nilS nilS).toArray 60)
  refine ⟨fun _ => False, fun _ => False, nilS, nilS, nilS, nilS, ⟨FlAt.new b1, FlAt.new b1, Ro.new w _ _, fun e => e, fun e => e, fun _ e => e.elim, b.size, newD_ok h⟩, fun k hk => ?_, fun k hk => ?_⟩
  · rcases hk with hk | hk | hk
    · exact hk.elim
    · exact hk.elim
    · exact hk
  · subst hk
    rw [World.size_alloc]
    exact ⟨b.size, by omega⟩
set_option maxRecDepth 100000 in
theorem new_any {w : World} {m : Nat} (h1 : 1 ≤ m) (h2 : m ≤ 4194304) : Calls Try.prog 10 #[.int .i64 (m : Nat)] w fun e w' => e = .returned (.tuple #[.pointer (some ⟨w.heap.size, 0, none⟩), .int .i64 0]) ∧ w' = w.alloc (.cells (dkV (newD m) nilS nilS nilS nilS).toArray 60) := by
  have t1 : decide ((m : Int) < 1) = false := decide_eq_false (by omega)
  have t2 : decide ((m : Int) > 4194304) = false := decide_eq_false (by omega)
  have t3 : decide ((4194304 : Int) < (m : Int)) = false := decide_eq_false (by omega)
  have BD := Lib.hid (build_disk m)
  obtain ⟨V, hV⟩ : ∃ V, dkV (newD m) nilS nilS nilS nilS = V := ⟨_, rfl⟩
  rw [hV] at BD ⊢
  have HV := Lib.hid hV
  clear hV
  go_enter Try.func10, Try.ntmps10
  go_wp2_with (refine wpList_plain rfl fun _ hK => wp_buildR rfl 60 #[(0, .tmp 10), (2, .const (.int .i64 (-1)))] rfl (us := #[(0, .int .i64 (m : Int)), (2, .int .i64 (-1))]) (by simp [go_sem]) (BD.out _) (hK _ _ ?_))
  go_returns
  exact ⟨rfl, rfl⟩
set_option maxRecDepth 100000 in
theorem new_not {w : World} {m : Int} (h : m < 1 ∨ 4194304 < m) : Calls Try.prog 10 #[.int .i64 m] w fun e w' => e = .returned (.tuple #[.pointer none, .int .i64 1]) ∧ w' = w := by
  by_cases h1 : m < 1
  · have t1 : decide (m < 1) = true := decide_eq_true h1
    go_enter Try.func10, Try.ntmps10
    go_wp2_with fail
    go_returns
    exact ⟨rfl, rfl⟩
  · have h2 : 4194304 < m := by omega
    have t1 : decide (m < 1) = false := decide_eq_false h1
    have t2 : decide (m > 4194304) = true := decide_eq_true h2
    have t3 : decide (4194304 < m) = true := decide_eq_true h2
    go_enter Try.func10, Try.ntmps10
    go_wp2_with fail
    go_returns
    exact ⟨rfl, rfl⟩
set_option maxRecDepth 100000 in
theorem stands_any {w0 w : World} {d : Nat} {F : Nat → Prop} {S : Dk} (D : Dsk w0 d F S w) (hn : S.cnt ≤ 1073741823) (f : Int) {L : List Nat} (hL : AllB L) :
    Calls Try.prog 19 #[.pointer (some ⟨d, 0, none⟩), .int .i64 f, .string (strB L)] w fun e W => e = .returned (.bool (decide ((S.read f).2 = 0 ∧ (S.read f).1 = L))) ∧ Below w.heap.size w W := by
  have HR := Lib.hid (read_any D hn f)
  clear D
  obtain ⟨M, hM⟩ : ∃ M, (S.read f).1 = M := ⟨_, rfl⟩
  obtain ⟨q, hq⟩ : ∃ q, (S.read f).2 = q := ⟨_, rfl⟩
  rw [hM, hq] at HR ⊢
  have HL := Lib.hid hL
  clear hM hq hL
  by_cases h0 : q = 0
  · have t1 : decide (q = 0) = true := decide_eq_true h0
    have t2 : (q == 0) = true := by simp [h0]
    go_enter Try.func19, Try.ntmps19
    go_wp2_with fail
    refine (HR.out).mono ?_
    rintro e W ⟨A, n, c, rfl, hc, hO⟩
    have rs := run_str (c := c) hO.reads
    have HO := Lib.hid hO
    clear hO
    go_wp2_with fail
    go_ret
    refine ⟨?_, HO.out.bel⟩
    show Ending.returned (.bool ((strB M).toList == (strB L).toList)) = _
    rw [str_dec HO.out.byt HL.out]
    simp [h0]
  · have t1 : decide (q = 0) = false := decide_eq_false h0
    have t2 : (q == 0) = false := by simp [h0]
    go_enter Try.func19, Try.ntmps19
    go_wp2_with fail
    refine (HR.out).mono ?_
    rintro e W ⟨A, n, c, rfl, hc, hO⟩
    have rs := run_str (c := c) hO.reads
    have HO := Lib.hid hO.bel
    clear hO
    go_wp2_with fail
    go_ret
    exact ⟨by simp [h0], HO.out⟩
end Go.Proofs.Ytgnomopiofpknaa
