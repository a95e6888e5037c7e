/- What Cut does to its file. No condition but bounds. -/
import Derived.Test.YtgnomopiofpknaaWr1
namespace Go.Proofs.Ytgnomopiofpknaa
open Go.RowKit

set_option maxRecDepth 100000 in
set_option maxHeartbeats 4000000 in
theorem cut1_any {w0 w : World} {P : Nat → Prop} {vs vl : Value} {S : Fl} {d o bx : Nat} {T TB : TypeId} {cur : List Value} {n : Nat} (F : FlAt w0 P vs vl S w) (R : Ro w d T cur) (hd : ¬ P d) (hw : w0.heap.size ≤ d)
    (c0 : cur[o]? = some vs) (c1 : cur[o + 1]? = some vl) (hlen : o + 2 < cur.length) (hn : S.loose.length ≤ 1073741823) (hb : Ro w bx TB [.int .i64 (n : Nat)]) (hl : n ≤ 4194304) :
    Calls Try.prog 40 #[.pointer (some ⟨d, o, none⟩), .pointer (some ⟨bx, 0, none⟩)] w fun e W => e = .returned (.tuple #[]) ∧ Fil w0 P w d o T cur (S.add (.c n)) (n : Nat) W := by
  have C2 : Hid (Calls Try.prog 36 #[.pointer (some ⟨d, o, none⟩), .iface 85 (.agg #[.int .i64 (n : Nat)]), .int .i64 (n : Nat)] w fun e W => e = .returned (.tuple #[]) ∧ Fil w0 P w d o T cur (S.add (.c n)) (n : Nat) W) :=
    Lib.hid ((add_any F R hd hw c1 hlen hn (show ChgR w _ [cV n] (.c n) from ⟨rfl, hl⟩)).mono fun e W ⟨h1, vl', h2, h3, h4⟩ => ⟨h1, ⟨vs, vl', h2, by rw [set_same c0]; exact h3⟩, h4⟩)
  have q1 := hb.cell (k := 0) rfl
  clear F R hd hw c0 c1 hn hb hlen
  go_enter Try.func40, Try.ntmps40
  go_wp2_with fail
  refine (C2.out).mono ?_
  rintro e W ⟨rfl, G⟩
  go_wp2_with fail
  go_returns
  exact ⟨rfl, G⟩
end Go.Proofs.Ytgnomopiofpknaa
