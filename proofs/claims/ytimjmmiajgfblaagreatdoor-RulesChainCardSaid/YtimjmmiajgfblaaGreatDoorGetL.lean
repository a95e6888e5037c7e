/- header.Get: the words of its walk. No condition. -/
import Derived.Test.YtimjmmiajgfblaaGreatDoorGai
import Derived.Lib.EndianBits

namespace Go.Proofs.YtimjmmiajgfblaaGreatDoor
open Go.RowKit

/-- A header with its k-th number turned. -/
def putN (h : Hd) (k x : Nat) : Hd := match k with
  | 0 => { h with v := x }
  | 1 => { h with t := x }
  | 2 => { h with b := x }
  | _ => { h with n := x }
theorem set_no {h : Hd} (hp : h.p.length = 32) (hr : h.r.length = 32) {k : Nat} (hk : k < 4) (x : Nat) : (hdV h).set (poN k) (.int .u32 (x : Int)) = hdV (putN h k x) := by
  rcases four hk with rfl | rfl | rfl | rfl
  · rfl
  all_goals
    unfold hdV poN putN
    simp only [List.getD_cons_succ, List.getD_cons_zero, List.set_cons_succ]
    rw [List.set_append_right _ _ (by simp [vals_length, hp]), List.set_append_right _ _ (by simp [vals_length, hp, hr])]
    simp [vals_length, hp, hr, u32v]
theorem no_put {h : Hd} {k : Nat} (hk : k < 4) (x : Nat) : noN (putN h k x) k = x := by
  rcases four hk with rfl | rfl | rfl | rfl <;> rfl
theorem put_put {h : Hd} {k : Nat} (hk : k < 4) (x y : Nat) : putN (putN h k x) k y = putN h k y := by
  rcases four hk with rfl | rfl | rfl | rfl <;> rfl
theorem putN_p (h : Hd) (k x : Nat) : (putN h k x).p = h.p ∧ (putN h k x).r = h.r := by
  unfold putN
  split <;> exact ⟨rfl, rfl⟩
/-- The number of the first j bytes. -/
def numJ (L : List Nat) (a : Nat) : Nat → Nat
  | 0 => 0
  | j + 1 => numJ L a j + nth L (a + j) * 256 ^ j
theorem numJ_lt {L : List Nat} (h : AllB L) (a : Nat) : ∀ j, numJ L a j < 256 ^ j
  | 0 => by simp [numJ]
  | j + 1 => by
    have h1 := numJ_lt h a j
    have h2 := nth_lt h (a + j)
    rw [numJ, Nat.pow_succ]
    have h3 : nth L (a + j) * 256 ^ j ≤ 255 * 256 ^ j := Nat.mul_le_mul_right _ (by omega)
    omega
theorem numJ_four (L : List Nat) (a : Nat) : numJ L a 4 = num4 L a := by simp [numJ, num4]
/-- What has been got when k numbers have. -/
def gotH (L : List Nat) : Nat → Hd
  | 0 => zeroH
  | k + 1 => putN (gotH L k) k (num4 L (atN k))
theorem gotH_p (L : List Nat) : ∀ k, (gotH L k).p = List.replicate 32 0 ∧ (gotH L k).r = List.replicate 32 0
  | 0 => ⟨rfl, rfl⟩
  | k + 1 => ⟨((putN_p _ _ _).1).trans (gotH_p L k).1, ((putN_p _ _ _).2).trans (gotH_p L k).2⟩
theorem noN_zero (L : List Nat) {k : Nat} (hk : k < 4) : noN (gotH L k) k = 0 := by
  rcases four hk with rfl | rfl | rfl | rfl <;> simp only [gotH, putN, noN, zeroH, List.getD_cons_zero, List.getD_cons_succ]
theorem putN_zero (L : List Nat) {k : Nat} (hk : k < 4) : putN (gotH L k) k 0 = gotH L k := by
  rcases four hk with rfl | rfl | rfl | rfl <;> simp only [gotH, putN, zeroH]
theorem gotH_four (L : List Nat) : gotH L 4 = ⟨num4 L 0, List.replicate 32 0, List.replicate 32 0, num4 L 68, num4 L 72, num4 L 76⟩ := by simp only [gotH, putN, zeroH, atN, List.getD_cons_zero, List.getD_cons_succ]

theorem hdV_no' {h : Hd} (p : h.p.length = 32) (r : h.r.length = 32) {k : Nat} (hk : k < 4) : (hdV h)[poN k]? = some (.int .u32 (noN h k : Nat)) := by
  rcases four hk with rfl | rfl | rfl | rfl
  · rfl
  all_goals
    unfold hdV poN noN
    simp only [List.getD_cons_succ, List.getD_cons_zero, List.getElem?_cons_succ]
    rw [List.getElem?_append_right (by simp [vals_length, p]), List.getElem?_append_right (by simp [vals_length, p, r])]
    simp [vals_length, p, r, u32v]
theorem hdV_len' {h : Hd} (p : h.p.length = 32) (r : h.r.length = 32) : (hdV h).length = 68 := by simp [hdV, vals_length, p, r]
theorem rowHd : IsRow 27 68 := ⟨.inl ⟨_, Tryz.underlying27⟩, by kernel_rfl⟩
theorem zeroHd (w : World) : (zeroValue 27).run Tryz.prog w = .ok (.agg (hdV zeroH).toArray) w := by kernel_rfl

theorem results_ro2 {fn : Func} {p q : Tmp} {T S : TypeId} {n : Nat} (h : fn.results = #[.cell p T, .tmp q]) (tmps : Array Value) {w : World} {b : Nat} {vs : List Value} {v : Value} (hp : tmps.getD p undef = .pointer (some ⟨b, 0, none⟩)) (hT : IsRow T n) (hr : Ro w b S vs) (hl : vs.length = n) (hq : tmps.getD q undef = v) :
    (results fn tmps).run Tryz.prog w = .ok (.tuple #[.agg vs.toArray, v]) w := by
  have hp' : tmps[p]?.getD undef = .pointer (some ⟨b, 0, none⟩) := by simpa using hp
  have hq' : tmps[q]?.getD undef = v := by simpa using hq
  have key : (loadVar T ⟨b, 0, none⟩).run Tryz.prog w = .ok (.agg vs.toArray) w := by
    obtain ⟨⟨f, h1⟩ | ⟨k, e, h1⟩, h3⟩ := hT
    · exact run_loadVar_row w b S T vs.toArray (0, 0) _ hr h1 rfl (by rw [h3]; simp [hl])
    · exact run_loadVar_row w b S T vs.toArray (0, 0) _ hr h1 rfl (by rw [h3]; simp [hl])
  simp [results, h, hp', hq', asAddr, key]
theorem Bs.from {w : World} {a : Addr} {n k m : Nat} {L : List Nat} (h : Bs w (some a) n L) (hk : 0 < k) (hm : k + m = n) (hp : 0 < m) : Bs w (some ⟨a.block, a.off + k, none⟩) m (L.drop k) := by
  have h1 := h.cut (k := k) (m := m) (c := n) (by omega) (Nat.le_refl _)
  rw [if_neg (by omega), List.take_of_length_le (by rw [List.length_drop, h.len]; omega)] at h1
  have e : a.add k = ⟨a.block, a.off + k, none⟩ := by unfold Addr.add; rw [if_neg (by omega)]
  rw [Option.map_some, e] at h1
  exact h1
structure GetAt (w : World) (L : List Nat) (k : Nat) (wr : World) : Prop where
  rs : Ro wr w.heap.size 27 (hdV zeroH)
  hd : Ro wr (w.heap.size + 1) 27 (hdV (gotH L k))
  bel : Below w.heap.size w wr
structure GIn (w : World) (L : List Nat) (k j xb : Nat) (wr : World) : Prop where
  rs : Ro wr w.heap.size 27 (hdV zeroH)
  hd : Ro wr (w.heap.size + 1) 27 (hdV (putN (gotH L k) k (numJ L (atN k) j)))
  xs : Ro wr xb 109 [.int .i64 (atN k : Nat), .pointer (some ⟨w.heap.size + 1, poN k, none⟩)]
  bel : Below w.heap.size w wr
  new : w.heap.size + 2 ≤ xb
theorem GIn.next {w : World} {L : List Nat} {k j xb : Nat} {wr : World} (hk : k < 4) (I : GIn w L k j xb wr) {q : Nat} (hq : poN k = q) {v : Int} (hv : v = ((numJ L (atN k) (j + 1) : Nat) : Int)) : GIn w L k (j + 1) xb ((wr.setCell ⟨w.heap.size + 1, q, none⟩ (.int .u32 v)).drew) := by
  subst hq hv
  obtain ⟨W1, hW1⟩ : ∃ W1, wr.setCell ⟨w.heap.size + 1, poN k, none⟩ (.int .u32 ((numJ L (atN k) (j + 1) : Nat) : Int)) = W1 := ⟨_, rfl⟩
  have e : W1.heap.size = wr.heap.size := by rw [← hW1]; simp
  have b : Below W1.heap.size W1 W1.drew := (Below.refl _ _).drew
  have h1 := I.rs.other (c := w.heap.size + 1) (k := poN k) (by omega) (.int .u32 ((numJ L (atN k) (j + 1) : Nat) : Int))
  have h2 := I.hd.set (poN k) (.int .u32 ((numJ L (atN k) (j + 1) : Nat) : Int))
  have h3 := I.xs.other (c := w.heap.size + 1) (k := poN k) (by have := I.new; omega) (.int .u32 ((numJ L (atN k) (j + 1) : Nat) : Int))
  have h4 := I.bel.setCell (p := ⟨w.heap.size + 1, poN k, none⟩) (by simp) (.int .u32 ((numJ L (atN k) (j + 1) : Nat) : Int))
  rw [hW1] at h1 h2 h3 h4 ⊢
  rw [set_no (by rw [(putN_p _ _ _).1, (gotH_p L k).1]; rfl) (by rw [(putN_p _ _ _).2, (gotH_p L k).2]; rfl) hk, put_put hk] at h2
  exact ⟨h1.later b, h2.later b, h3.later b, h4.drew, I.new⟩

theorem or_u32 (y c : Nat) {j : Nat} (hj : j < 4) (hy : y < 256 ^ j) (hc : c < 256) : bits .or .u32 (y : Int) ((c * 256 ^ j : Nat) : Int) = ((y + c * 256 ^ j : Nat) : Int) := by
  rcases four hj with rfl | rfl | rfl | rfl
  · simp at hy
    subst hy
    rw [bits_og]
    simp [og]
    omega
  · simp at hy
    exact (u32_or8 (y := (y : Int)) (x := ((c * 256 ^ 1 : Nat) : Int)) (by omega) (by omega) (by omega) (by omega) (by omega)).trans (by omega)
  · simp at hy
    exact (u32_or16 (y := (y : Int)) (x := ((c * 256 ^ 2 : Nat) : Int)) (by omega) (by omega) (by omega) (by omega) (by omega)).trans (by omega)
  · simp at hy
    exact (u32_or24 (y := (y : Int)) (x := ((c * 256 ^ 3 : Nat) : Int)) (by omega) (by omega) (by omega) (by omega) (by omega)).trans (by omega)
theorem hd_splice_p {h : Hd} {M : List Nat} (hp : h.p.length = 32) (hM : M.length = 32) : splice (hdV h) 1 (vals M) = hdV { h with p := M } := by
  unfold hdV
  exact splice_mid (A := [u32v h.v]) (k := 1) rfl (by simp [vals_length, hp, hM])
theorem hd_splice_r {h : Hd} {M : List Nat} (hp : h.p.length = 32) (hr : h.r.length = 32) (hM : M.length = 32) : splice (hdV h) 33 (vals M) = hdV { h with r := M } := by
  unfold hdV
  have := splice_mid (A := u32v h.v :: vals h.p) (B := vals h.r) (C := [u32v h.t, u32v h.b, u32v h.n]) (D := vals M) (k := 33) (by simp [vals_length, hp]) (by simp [vals_length, hr, hM])
  simpa using this

end Go.Proofs.YtimjmmiajgfblaaGreatDoor
