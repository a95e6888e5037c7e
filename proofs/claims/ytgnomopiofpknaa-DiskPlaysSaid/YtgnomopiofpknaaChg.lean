/- Changes in memory: what a write and a cut do, their units, and their first units. No condition. -/
import Derived.Test.YtgnomopiofpknaaApp
import Derived.Test.YtgnomopiofpknaaDkS
namespace Go.Proofs.Ytgnomopiofpknaa
open Go.RowKit

def wV (A : Option Addr) (n c : Nat) : Value := .iface 80 (.agg #[.slice A n c])
def cV (n : Nat) : Value := .iface 85 (.agg #[.int .i64 (n : Int)])
/-- How a change reads. -/
def ChgR : Reads Chg := fun w P V x => match x with
  | .w b => ∃ A c, V = [wV A b.length c] ∧ BsP w P A b.length b ∧ b.length ≤ c ∧ b.length ≤ 4194304 ∧ c ≤ 9223372036854775807
  | .c n => V = [cV n] ∧ n ≤ 4194304
theorem chgM : Mono ChgR where
  keep := by
    intro w w' P V x h g
    cases x with
    | w b => obtain ⟨A, c, e, h1, h2⟩ := h; exact ⟨A, c, e, h1.keep g, h2⟩
    | c n => exact h
  weak := by
    intro w P Q V x h q
    cases x with
    | w b => obtain ⟨A, c, e, h1, h2⟩ := h; exact ⟨A, c, e, h1.weak q, h2⟩
    | c n => exact h
theorem elemChg : ElemT 55 83 1 16 .nilIface := ⟨Try.underlying55, by kernel_rfl, rfl, by decide⟩

/-- A row cut to fewer. -/
theorem ownsRow_short {w : World} {base : Nat} {e : TypeId} {size : Nat} {A : Option Addr} {n c : Nat} {xs : List Value} (h : w.ownsRow base e size (.slice A n c) n xs) {k : Nat} (hk : k ≤ n) : w.ownsRow base e size (.slice A k c) k (xs.take (k * size)) := by
  obtain ⟨h1, h2⟩ := h
  have hm : k * size ≤ n * size := Nat.mul_le_mul_right _ hk
  refine ⟨by rw [List.length_take, h1]; omega, ?_⟩
  rcases h2 with ⟨e1, e2⟩ | ⟨g, cap, cur, e1, hb, hg, hn, hc, hs, ht⟩
  · injection e1 with a1 a2 a3
    subst a1 a3 e2
    obtain rfl : k = 0 := by omega
    exact .inl ⟨rfl, rfl⟩
  · injection e1 with a1 a2 a3
    subst a1 a3
    refine .inr ⟨g, c, cur, rfl, hb, hg, by omega, hc, hs, ?_⟩
    rw [← ht, List.take_take, Nat.min_eq_left hm]
theorem Own.short {w0 w : World} {A : Option Addr} {n c : Nat} {L : List Nat} (h : Own w0 (.slice A n c) n L w) {k : Nat} (hk : k ≤ n) : Own w0 (.slice A k c) k (L.take k) w :=
  ⟨by
    have := ownsRow_short h.row hk
    rw [Nat.mul_one] at this
    simpa [vals, List.map_take] using this, fun x hx => h.byt x (List.mem_of_mem_take hx), h.bel⟩

theorem writeDo_any {w0 w : World} {A : Option Addr} {n c : Nat} {L M : List Nat} {v : Value} {m : Nat} (hO : Own w0 v m L w) (hM : Bs w A n M) (hlen : m + n ≤ 1099511627776) :
    Calls Try.prog 60 #[.agg #[.slice A n c], v] w (Puts w0 w v L M) := by
  have HO := Lib.hid hO
  have HM := Lib.hid hM
  clear hO hM
  go_enter Try.func60, Try.ntmps60
  have B1 : Hid (Below w.heap.size w (w.alloc (.cells #[.slice A n c] 80))) := Lib.hid ((Below.refl _ _).alloc (Nat.le_refl _) _)
  go_wp2_with (at_builtin; refine wpList_appB rfl _ _ rfl rfl (HO.out.later B1.out) rfl (HM.out.later B1.out) hlen ?_)
  intro A' N c' w' h1 h2 h3
  have H1 := Lib.hid h1
  have H2 := Lib.hid h2
  have H3 := Lib.hid ((Grew.below v B1.out).trans h3)
  clear h1 h2 h3
  go_wp2_with fail
  go_ret
  exact ⟨A', N, c', rfl, H1.out, H2.out, H3.out⟩
theorem writeUnits_any {w : World} {A : Option Addr} {n c : Nat} :
    Calls Try.prog 62 #[.agg #[.slice A n c]] w fun e w' => e = .returned (.int .i64 (n : Nat)) ∧ Below w.heap.size w w' := by
  go_enter Try.func62, Try.ntmps62
  go_wp2_with fail
  go_ret
  exact ⟨rfl, (Below.refl _ _).alloc (Nat.le_refl _) _⟩
theorem writeFirst_any {w : World} {A : Option Addr} {n c k : Nat} (hk : k ≤ n) (hn : n ≤ c) :
    Calls Try.prog 61 #[.agg #[.slice A n c], .int .i64 (k : Nat)] w fun e w' => e = .returned (wV A k c) ∧ Below w.heap.size w w' := by
  go_enter Try.func61, Try.ntmps61
  go_wp2_with fail
  go_ret
  exact ⟨rfl, (Below.refl _ _).alloc (Nat.le_refl _) _⟩
theorem cutDo_any {w : World} {A : Option Addr} {n c k : Nat} (hk : k ≤ n) (hn : n ≤ c) :
    Calls Try.prog 63 #[.agg #[.int .i64 (k : Nat)], .slice A n c] w fun e w' => e = .returned (.slice A k c) ∧ Below w.heap.size w w' := by
  go_enter Try.func63, Try.ntmps63
  go_wp2_with fail
  go_ret
  exact ⟨rfl, (Below.refl _ _).alloc (Nat.le_refl _) _⟩
theorem cutUnits_any {w : World} {k : Int} :
    Calls Try.prog 65 #[.agg #[.int .i64 k]] w fun e w' => e = .returned (.int .i64 1) ∧ Below w.heap.size w w' := by
  go_enter Try.func65, Try.ntmps65
  go_wp2_with fail
  go_ret
  exact ⟨rfl, (Below.refl _ _).alloc (Nat.le_refl _) _⟩
theorem cutFirst_any {w : World} {k j : Int} :
    Calls Try.prog 64 #[.agg #[.int .i64 k], .int .i64 j] w fun e w' => e = .returned (wV none 0 0) ∧ Below w.heap.size w w' := by
  go_enter Try.func64, Try.ntmps64
  go_wp2_with fail
  go_ret
  exact ⟨rfl, (Below.refl _ _).alloc (Nat.le_refl _) _⟩
end Go.Proofs.Ytgnomopiofpknaa
