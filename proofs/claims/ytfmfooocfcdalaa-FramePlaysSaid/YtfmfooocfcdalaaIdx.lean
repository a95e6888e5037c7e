/- Where the first end stands: bytes.IndexByte of 10 at any slice that reads. No condition. -/
import Derived.Test.YtfmfooocfcdalaaShelf
import Derived.Test.YtfmfooocfcdalaaSame
import Derived.Lib.IndexLaws
namespace Go.Proofs.Ytfmfooocfcdalaa
open Go.RowKit Go.Shelf

def posN : List Nat → Option Nat
  | [] => none
  | x :: l => if x = 10 then some 0 else (posN l).map (· + 1)
def posI (L : List Nat) : Int := match posN L with | none => -1 | some k => (k : Int)
theorem posN_none {L : List Nat} (h : posN L = none) : ∀ x ∈ L, x ≠ 10 := by
  induction L with
  | nil => intro x hx; cases hx
  | cons y l ih =>
    unfold posN at h
    split at h
    · cases h
    · intro x hx
      rcases List.mem_cons.1 hx with rfl | hx
      · assumption
      · exact ih (by cases hp : posN l with | none => rfl | some k => rw [hp] at h; cases h) x hx
theorem posN_some : ∀ {L : List Nat} {k : Nat}, posN L = some k → k < L.length ∧ L.drop k = 10 :: L.drop (k + 1) ∧ ∀ x ∈ L.take k, x ≠ 10
  | [], k, h => by cases h
  | y :: l, k, h => by
    unfold posN at h
    split at h
    · injection h with h
      subst h
      rename_i hy
      subst hy
      exact ⟨by simp, by simp, fun x hx => by simp at hx⟩
    · rename_i hy
      cases hp : posN l with
      | none => rw [hp] at h; cases h
      | some j =>
        rw [hp] at h
        injection h with h
        subst h
        obtain ⟨h1, h2, h3⟩ := posN_some hp
        refine ⟨by simp; omega, by simpa using h2, fun x hx => ?_⟩
        rw [List.take_succ_cons] at hx
        rcases List.mem_cons.1 hx with rfl | hx
        · exact hy
        · exact h3 x hx
theorem posI_lib : ∀ {L : List Nat}, AllB L → Lib.indexByte (Lib.bytesOf (L.map fun x : Nat => (x : Int))) 10 = posI L
  | [], _ => rfl
  | y :: l, h => by
    have ih := posI_lib (L := l) fun x hx => h x (List.mem_cons_of_mem _ hx)
    have hy := h y (by simp)
    have e : ((UInt8.ofNat (y : Int).toNat) == (10 : UInt8)) = decide (y = 10) := by
      rw [Int.toNat_natCast]
      have : ∀ z : Fin 256, (UInt8.ofNat z.val == (10 : UInt8)) = decide (z.val = 10) := by decide +kernel
      exact this ⟨y, hy⟩
    have e2 : Lib.bytesOf ((y :: l).map fun x : Nat => (x : Int)) = UInt8.ofNat (y : Int).toNat :: Lib.bytesOf (l.map fun x : Nat => (x : Int)) := rfl
    rw [e2, Lib.indexByte, e, ih]
    unfold posI
    by_cases h10 : y = 10
    · simp [posN, h10]
    · cases hp : posN l with
      | none => simp [posN, h10, hp]
      | some k =>
        have : ¬ ((k : Int) == -1) = true := by rw [beq_iff_eq]; omega
        simp only [posN, h10, hp, decide_false, Bool.false_eq_true, if_false, Option.map_some, this]
        push_cast
        rfl

/-- Two things that read as the same bytes are the same to the stand-in. -/
theorem index_like (x x' y : Value) (P : Program) (w : World) (h : (Extern.Bytes.bytesOf x).run P w = (Extern.Bytes.bytesOf x').run P w) : (Extern.BytealgIndexByte.indexByte #[x, y]).run P w = (Extern.BytealgIndexByte.indexByte #[x', y]).run P w := by
  delta Extern.BytealgIndexByte.indexByte Extern.BytealgIndexByte.indexByte.match_2
  simp [Array.getLit, Sem.run_bind, h]
theorem run_index {A : Option Addr} {n c : Nat} {L : List Nat} {w : World} (h : Bs w A n L) :
    (Extern.BytealgIndexByte.indexByte #[.slice A n c, .int .u8 10]).run Try.prog w = .ok (.int .i64 (posI L)) w := by
  rcases A with _ | a
  · have hn : n = 0 := by
      rcases Nat.eq_zero_or_pos n with e | e
      · exact e
      · obtain ⟨_, e, _⟩ := h.cel e
        cases e
    obtain rfl : L = [] := List.eq_nil_of_length_eq_zero (by rw [h.len, hn])
    exact Lib.run_indexByteNil w n c 10
  · have hl := Lib.run_loadBytesX (P := Try.prog) w (L.map fun x : Nat => (x : Int)) a .empty (fun j x hj => by
      rw [List.getElem?_map, Option.map_eq_some_iff] at hj
      obtain ⟨y, hy, rfl⟩ := hj
      have hjl : j < n := by rw [← h.len]; exact (List.getElem?_eq_some_iff.1 hy).1
      obtain ⟨b, e, _, hb⟩ := h.cel (by omega)
      injection e with e
      subst e
      rw [hb j hjl]
      simp [nth, List.getD, hy])
    rw [List.length_map, h.len] at hl
    have hs := Lib.run_indexByteString (P := Try.prog) ⟨(Lib.bytesOf (L.map fun x : Nat => (x : Int))).toArray⟩ 10 w
    have he : (⟨ByteArray.empty.data ++ (Lib.bytesOf (L.map fun x : Nat => (x : Int))).toArray⟩ : ByteArray) = ⟨(Lib.bytesOf (L.map fun x : Nat => (x : Int))).toArray⟩ := by
      apply ByteArray.ext
      exact Array.empty_append
    rw [he] at hl
    rw [index_like _ (.string ⟨(Lib.bytesOf (L.map fun x : Nat => (x : Int))).toArray⟩) _ _ w (by simp only [Extern.Bytes.bytesOf, Sem.run_pure]; exact hl), hs]
    exact congrArg (fun i => Result.ok (Value.int .i64 i) w) (posI_lib h.byt)

set_option maxHeartbeats 1000000 in
set_option maxRecDepth 100000 in
theorem index_any {A : Option Addr} {n c : Nat} {L : List Nat} {w : World} (h : Bs w A n L) :
    Calls Try.prog 21 #[.slice A n c, .int .u8 10] w fun e w' => e = .returned (.int .i64 (posI L)) ∧ w' = w := by
  have H := run_index (c := c) h
  clear h
  go_enter Try.func21, Try.ntmps21
  go_wp2
  rw [run_callFunc_extern Try.func22 (by kernel_rfl) (by kernel_rfl) (by kernel_rfl) (e := Extern.BytealgIndexByte.indexByte) (by kernel_rfl), H]
  simp only [Result.andThen]
  rw [Oper.upon_value]
  go_wp2
  go_ret
  exact ⟨rfl, rfl⟩
end Go.Proofs.Ytfmfooocfcdalaa
