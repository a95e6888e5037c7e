/- Heavy: whether steps are too many. No condition but the machine's reach. -/
import Derived.Test.YtgnomopiofpknaaStp
namespace Go.Proofs.Ytgnomopiofpknaa
open Go.RowKit

def wt (s : StepD) : Nat := 16 + s.b.length + s.p.length
def wts (l : List StepD) : Nat := (l.map wt).sum
theorem wts_app (l m : List StepD) : wts (l ++ m) = wts l + wts m := by simp [wts]
theorem wts_take (l : List StepD) (k : Nat) : wts (l.take k) ≤ wts l := by
  have := wts_app (l.take k) (l.drop k)
  rw [List.take_append_drop] at this
  omega
theorem wts_next {l : List StepD} {k : Nat} (h : k < l.length) : wts (l.take (k + 1)) = wts (l.take k) + wt l[k] := by
  rw [List.take_add_one, List.getElem?_eq_getElem h, wts_app]
  simp [wts]
theorem wts_len : ∀ (l : List StepD), 16 * l.length ≤ wts l
  | [] => Nat.le_refl _
  | s :: l => by
    have := wts_len l
    simp only [wts, List.map_cons, List.sum_cons, wt, List.length_cons] at *
    omega
/-- A step's cells. -/
theorem step_at {w : World} {b o n : Nat} {l : List StepD} (h : Rows w anyP 5 StepR (some ⟨b, o, none⟩) n l) {k : Nat} (hk : k < l.length) : b < w.heap.size ∧ ∃ B cb Q cq,
    w.cell? ⟨b, o + k * 5, none⟩ = some (.int .u8 (l[k].k : Int)) ∧ w.cell? ⟨b, o + k * 5 + 1, none⟩ = some (.int .i64 l[k].f) ∧ w.cell? ⟨b, o + k * 5 + 2, none⟩ = some (.int .i64 l[k].n) ∧ w.cell? ⟨b, o + k * 5 + 3, none⟩ = some (.slice B l[k].b.length cb) ∧ w.cell? ⟨b, o + k * 5 + 4, none⟩ = some (.slice Q l[k].p.length cq) ∧
    l[k].Ok ∧ (l[k].b.length ≤ cb ∧ l[k].b.length ≤ 140737488351232) ∧ cb ≤ 9223372036854775807 ∧ Bs w B l[k].b.length l[k].b ∧ (l[k].p.length ≤ cq ∧ l[k].p.length ≤ 140737488351232) ∧ cq ≤ 9223372036854775807 ∧ Zs w Q l[k].p.length l[k].p := by
  obtain ⟨hb, _, V, _, hr, B, cb, Q, cq, rfl, h1, h2, h3, h4, h5, h6, h7⟩ := h.at_ hk
  exact ⟨hb, B, cb, Q, cq, hr 0 _ rfl, hr 1 _ rfl, hr 2 _ rfl, hr 3 _ rfl, hr 4 _ rfl, h1, h2, h3, h4.bs, h5, h6, h7.zs⟩
theorem rows_some {α : Type} {w : World} {P : Nat → Prop} {sz : Nat} {R : Reads α} {A : Option Addr} {n : Nat} {l : List α} (h : Rows w P sz R A n l) (hn : 0 < n) : ∃ b o, A = some ⟨b, o, none⟩ := by
  obtain ⟨b, o, _, e, _⟩ := h.cel hn
  exact ⟨b, o, e⟩
set_option maxRecDepth 100000 in
set_option maxHeartbeats 4000000 in
theorem heavy_any {A : Option Addr} {n c : Nat} {l : List StepD} (w : World) (hn : n ≤ 140737488351232) (hL : Rows w anyP 5 StepR A n l) :
    Calls Try.prog 8 #[.slice A n c] w fun e w' => e = .returned (.bool (decide (8192 < wts l))) ∧ Below w.heap.size w w' := by
  have HL := Lib.hid hL
  have hln := hL.len
  clear hL
  go_enter Try.func8, Try.ntmps8
  go_wp2_with fail
  go_loopw [3, 4] (fun v i wr => ∃ k z : Nat, k ≤ n ∧ v = .int .i64 (z : Nat) ∧ i = .int .i64 (k : Nat) ∧ wts (l.take k) = z ∧ z ≤ 300000000000000 ∧ Below w.heap.size w wr) (fun _ i _ => n - (intOf i).toNat)
  case atStart => exact ⟨0, 0, Nat.zero_le _, rfl, rfl, rfl, by omega, Below.refl _ _⟩
  case round =>
    obtain ⟨k, z, hk, rfl, rfl, hz, hzb, bel⟩ := hrel
    have HZ := Lib.hid hz
    have HB := Lib.hid bel
    clear hz bel
    by_cases hlt : k < n
    · have t1 : decide ((k : Int) < (n : Int)) = true := decide_eq_true (by omega)
      by_cases h2 : z ≤ 8192
      · have t2 : decide ((z : Int) ≤ 8192) = true := decide_eq_true (by omega)
        obtain ⟨b, o, rfl⟩ := rows_some HL.out (by omega)
        have hkl : k < l.length := by omega
        obtain ⟨_, B, cb, Q, cq, _, _, _, c3, c4, _, ⟨_, l1⟩, _, _, ⟨_, l2⟩, _⟩ := step_at ((HL.out.later stepM HB.out).later stepM (Below.refl _ _).drew) hkl
        have HN := Lib.hid (wts_next hkl)
        obtain ⟨x, hx⟩ : ∃ x, l[k].b.length = x := ⟨_, rfl⟩
        obtain ⟨y, hy⟩ : ∃ y, l[k].p.length = y := ⟨_, rfl⟩
        rw [hx] at c3 l1
        rw [hy] at c4 l2
        have HW : Hid (wt l[k] = 16 + x + y) := Lib.hid (by rw [wt, hx, hy])
        clear hx hy
        go_wp2_with fail
        go_region
        go_wp2_with fail
        go_roundw
        case rel => exact ⟨k + 1, z + 16 + x + y, by omega, by go_num, by go_num, by rw [HN.out, HZ.out, HW.out]; omega, by omega, HB.out.drew⟩
        case measure => simp [intOf]; omega
      · have t2 : decide ((z : Int) ≤ 8192) = false := decide_eq_false (by omega)
        have t3 : decide ((8192 : Int) < (z : Int)) = true := decide_eq_true (by omega)
        go_wp2_with fail
        go_ret
        exact ⟨by rw [decide_eq_true (show 8192 < wts l by have := wts_take l k; have := HZ.out; omega)]; rfl, HB.out⟩
    · have t1 : decide ((k : Int) < (n : Int)) = false := decide_eq_false (by omega)
      have HE : Hid (wts l = z) := Lib.hid (by
        have := HZ.out
        rwa [List.take_of_length_le (by omega)] at this)
      by_cases h2 : 8192 < z
      · have t3 : decide ((8192 : Int) < (z : Int)) = true := decide_eq_true (by omega)
        go_wp2_with fail
        go_ret
        exact ⟨by rw [HE.out, decide_eq_true h2]; rfl, HB.out⟩
      · have t3 : decide ((8192 : Int) < (z : Int)) = false := decide_eq_false (by omega)
        go_wp2_with fail
        go_ret
        exact ⟨by rw [HE.out, decide_eq_false h2]; rfl, HB.out⟩
end Go.Proofs.Ytgnomopiofpknaa
