/- Headers as numbers, cells and bytes. No condition. -/
import Derived.Test.YtkocbkckfkbmhaaDoorArr
namespace Go.Proofs.YtkocbkckfkbmhaaDoor
open Go.RowKit

structure Hd where
  v : Nat
  p : List Nat
  r : List Nat
  t : Nat
  b : Nat
  n : Nat
structure Hd.Ok (h : Hd) : Prop where
  v : h.v < 4294967296
  p : h.p.length = 32
  r : h.r.length = 32
  t : h.t < 4294967296
  b : h.b < 4294967296
  n : h.n < 4294967296
  pb : AllB h.p
  rb : AllB h.r
theorem Hd.ext' {a b : Hd} (h1 : a.v = b.v) (h2 : a.p = b.p) (h3 : a.r = b.r) (h4 : a.t = b.t) (h5 : a.b = b.b) (h6 : a.n = b.n) : a = b := by
  cases a; cases b; simp_all
instance : DecidableEq Hd := fun a b =>
  if h : a.v = b.v ∧ a.p = b.p ∧ a.r = b.r ∧ a.t = b.t ∧ a.b = b.b ∧ a.n = b.n then isTrue (Hd.ext' h.1 h.2.1 h.2.2.1 h.2.2.2.1 h.2.2.2.2.1 h.2.2.2.2.2)
  else isFalse (fun e => h (by subst e; exact ⟨rfl, rfl, rfl, rfl, rfl, rfl⟩))
def hdV (h : Hd) : List Value := u32v h.v :: (vals h.p ++ (vals h.r ++ [u32v h.t, u32v h.b, u32v h.n]))
theorem hdV_len {h : Hd} (k : h.Ok) : (hdV h).length = 68 := by simp [hdV, vals_length, k.p, k.r]
theorem hdV_one (h : Hd) : ∀ u ∈ hdV h, u.oneCell' = true := by
  intro u hu
  unfold hdV at hu
  rcases List.mem_cons.1 hu with rfl | hu
  · rfl
  rcases List.mem_append.1 hu with hu | hu
  · exact vals_one _ _ hu
  rcases List.mem_append.1 hu with hu | hu
  · exact vals_one _ _ hu
  · simp at hu
    rcases hu with rfl | rfl | rfl <;> rfl
def le4 (x : Nat) : List Nat := [x % 256, x / 256 % 256, x / 65536 % 256, x / 16777216 % 256]
theorem le4_len (x : Nat) : (le4 x).length = 4 := rfl
theorem le4_byt (x : Nat) : AllB (le4 x) := fun y hy => by
  simp [le4] at hy
  omega
theorem le4_nth (x : Nat) : ∀ j, j < 4 → nth (le4 x) j = x / 256 ^ j % 256
  | 0, _ => by simp [le4, nth]
  | 1, _ => by simp [le4, nth]
  | 2, _ => by simp [le4, nth]
  | 3, _ => by simp [le4, nth]
  | n + 4, h => by omega
def hdB (h : Hd) : List Nat := le4 h.v ++ (h.p ++ (h.r ++ (le4 h.t ++ (le4 h.b ++ le4 h.n))))
theorem hdB_len {h : Hd} (k : h.Ok) : (hdB h).length = 80 := by simp [hdB, le4_len, k.p, k.r]
theorem hdB_byt {h : Hd} (k : h.Ok) : AllB (hdB h) := (le4_byt _).app (k.pb.app (k.rb.app ((le4_byt _).app ((le4_byt _).app (le4_byt _)))))
def num4 (L : List Nat) (k : Nat) : Nat := nth L k + nth L (k + 1) * 256 + nth L (k + 2) * 65536 + nth L (k + 3) * 16777216
theorem num4_lt {L : List Nat} (h : AllB L) (k : Nat) : num4 L k < 4294967296 := by
  have h0 := nth_lt h k
  have h1 := nth_lt h (k + 1)
  have h2 := nth_lt h (k + 2)
  have h3 := nth_lt h (k + 3)
  unfold num4
  omega
def cut32 (L : List Nat) (k : Nat) : List Nat := (L.drop k).take 32
def getH (L : List Nat) : Hd := ⟨num4 L 0, cut32 L 4, cut32 L 36, num4 L 68, num4 L 72, num4 L 76⟩
theorem cut32_byt {L : List Nat} (h : AllB L) (k : Nat) : AllB (cut32 L k) := fun x hx => h x (List.mem_of_mem_drop (List.mem_of_mem_take hx))
theorem getH_ok {L : List Nat} (h : AllB L) (hl : L.length = 80) : (getH L).Ok :=
  ⟨num4_lt h _, by simp [getH, cut32, hl], by simp [getH, cut32, hl], num4_lt h _, num4_lt h _, num4_lt h _, cut32_byt h _, cut32_byt h _⟩
def zeroH : Hd := ⟨0, List.replicate 32 0, List.replicate 32 0, 0, 0, 0⟩
theorem zeroH_ok : zeroH.Ok := ⟨by decide, by decide, by decide, by decide, by decide, by decide, fun x hx => by rw [List.eq_of_mem_replicate hx]; decide, fun x hx => by rw [List.eq_of_mem_replicate hx]; decide⟩
theorem num4_at {A B : List Nat} {k x : Nat} (hk : A.length = k) (hx : x < 4294967296) : num4 (A ++ (le4 x ++ B)) k = x := by
  subst hk
  unfold num4
  have e : ∀ j, j < 4 → nth (A ++ (le4 x ++ B)) (A.length + j) = nth (le4 x) j := fun j hj => by rw [nth_right, nth_left (by rw [le4_len]; exact hj)]
  have e0 := e 0 (by omega)
  rw [Nat.add_zero] at e0
  rw [e0, e 1 (by omega), e 2 (by omega), e 3 (by omega)]
  simp [le4, nth]
  omega
theorem cut32_at {A B C : List Nat} {k : Nat} (hk : A.length = k) (hB : B.length = 32) : cut32 (A ++ (B ++ C)) k = B := by
  subst hk
  unfold cut32
  rw [List.drop_left, ← hB, List.take_left]
/-- What was put is got. -/
theorem getH_hdB {h : Hd} (k : h.Ok) : getH (hdB h) = h := by
  have kp := k.p
  have kr := k.r
  refine Hd.ext' ?_ ?_ ?_ ?_ ?_ ?_
  · exact num4_at (A := []) rfl k.v
  · exact cut32_at (A := le4 h.v) rfl k.p
  · show cut32 (le4 h.v ++ (h.p ++ (h.r ++ _))) 36 = _
    rw [← List.append_assoc]
    exact cut32_at (by simp [le4_len, kp]) k.r
  · show num4 (le4 h.v ++ (h.p ++ (h.r ++ (le4 h.t ++ _)))) 68 = _
    rw [← List.append_assoc, ← List.append_assoc]
    exact num4_at (by simp [le4_len, kp, kr]) k.t
  · show num4 (le4 h.v ++ (h.p ++ (h.r ++ (le4 h.t ++ (le4 h.b ++ _))))) 72 = _
    rw [← List.append_assoc, ← List.append_assoc, ← List.append_assoc]
    exact num4_at (by simp [le4_len, kp, kr]) k.b
  · show num4 (le4 h.v ++ (h.p ++ (h.r ++ (le4 h.t ++ (le4 h.b ++ le4 h.n))))) 76 = _
    rw [← List.append_assoc, ← List.append_assoc, ← List.append_assoc, ← List.append_assoc]
    have := num4_at (A := le4 h.v ++ h.p ++ h.r ++ le4 h.t ++ le4 h.b) (B := []) (k := 76) (by simp [le4_len, kp, kr]) k.n
    rwa [List.append_nil] at this
theorem le4_num4 {L : List Nat} (h : AllB L) (k : Nat) : le4 (num4 L k) = [nth L k, nth L (k + 1), nth L (k + 2), nth L (k + 3)] := by
  have h0 := nth_lt h k
  have h1 := nth_lt h (k + 1)
  have h2 := nth_lt h (k + 2)
  have h3 := nth_lt h (k + 3)
  unfold le4 num4
  congr 1
  · omega
  congr 1
  · omega
  congr 1
  · omega
  congr 1
  omega
theorem nth_drop (L : List Nat) (k j : Nat) : nth (L.drop k) j = nth L (k + j) := by simp [nth, List.getD]
theorem nth_take {L : List Nat} {k j : Nat} (h : j < k) : nth (L.take k) j = nth L j := by simp [nth, List.getD, h]
theorem le4_take {L : List Nat} (h : AllB L) (k : Nat) (hk : k + 4 ≤ L.length) : le4 (num4 L k) = (L.drop k).take 4 := by
  rw [le4_num4 h]
  refine nth_ext (by simp; omega) ?_
  intro j hj
  simp at hj
  rw [nth_take (by omega), nth_drop]
  rcases (by omega : j = 0 ∨ j = 1 ∨ j = 2 ∨ j = 3) with rfl | rfl | rfl | rfl <;> simp [nth]
theorem take_drop_app {α : Type} (L : List α) (i a b : Nat) : (L.drop i).take a ++ (L.drop (i + a)).take b = (L.drop i).take (a + b) := by
  rw [← List.drop_drop, List.take_add]
/-- What is got is put as it stood. -/
theorem hdB_getH {L : List Nat} (h : AllB L) (hl : L.length = 80) : hdB (getH L) = L := by
  unfold hdB getH
  simp only
  rw [le4_take h 0 (by omega), le4_take h 68 (by omega), le4_take h 72 (by omega), le4_take h 76 (by omega)]
  unfold cut32
  rw [take_drop_app L 72 4 4, take_drop_app L 68 4 8, take_drop_app L 36 32 12, take_drop_app L 4 32 44, take_drop_app L 0 4 76]
  simp [List.take_of_length_le, hl]
theorem hdB_inj {h g : Hd} (k : h.Ok) (l : g.Ok) (e : hdB h = hdB g) : h = g := by rw [← getH_hdB k, e, getH_hdB l]
theorem hdV_inj {h g : Hd} (k : h.Ok) (l : g.Ok) (e : hdV h = hdV g) : h = g := by
  have inj : ∀ {a b : List Nat}, vals a = vals b → a = b := fun {a b} e => by
    unfold vals at e
    refine List.map_inj_right (f := byteV) ?_ |>.1 e
    intro x y hxy
    simp [byteV] at hxy
    omega
  unfold hdV at e
  simp only [List.cons.injEq] at e
  obtain ⟨e0, e1⟩ := e
  have e2 := List.append_inj e1 (by simp [vals_length, k.p, l.p])
  have e3 := List.append_inj e2.2 (by simp [vals_length, k.r, l.r])
  have e4 := e3.2
  simp [u32v] at e0 e4
  exact Hd.ext' (by omega) (inj e2.1) (inj e3.1) (by omega) (by omega) (by omega)
end Go.Proofs.YtkocbkckfkbmhaaDoor
