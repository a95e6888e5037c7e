/- The writers of a bytes.Buffer that is a struct's one field, and strconv.Itoa, in this seat's words. No condition but bounds, and that the tables lie as laid. -/
import Derived.Test.YtipbpecihbmneaaDoorShelf
import Derived.Test.YtipbpecihbmneaaDoorHex
import Derived.Test.YtipbpecihbmneaaDoorMix
import Derived.Lib.QuietBelow
import Derived.Lib.AppendIntMem
import Derived.Lib.LaidTab
namespace Go.Proofs.YtipbpecihbmneaaDoor
open Go.RowKit

/-- Block b is a writer that holds the bytes L. -/
def Buf (B b : Nat) (L : List Nat) (w : World) : Prop := LibA.IsBuffer 41 (fun _ => none) 5 B b 0 (vals L) w
theorem byteCells_vals : ∀ {M : List Nat}, AllB M → Lib.byteCells (M.map UInt8.ofNat) = vals M
  | [], _ => rfl
  | x :: M, h => by
    have hx := h x (by simp)
    have ih := byteCells_vals (M := M) (fun y hy => h y (by simp [hy]))
    simp only [Lib.byteCells, List.map_cons, vals] at ih ⊢
    rw [ih, UInt8.toNat_ofNat', Nat.mod_eq_of_lt hx]
    rfl
theorem writeString_any {B b : Nat} {L M : List Nat} {w : World} (h : Buf B b L w) (hM : AllB M) (hB : B ≤ w.heap.size) (hl : L.length + M.length ≤ 140737488355328) :
    Calls Tryd.prog 26 #[.pointer (some ⟨b, 0, none⟩), .string (strB M)] w fun e w' => (∃ v, e = .returned v) ∧ Buf B b (L ++ M) w' ∧ Below B w w' ∧ Lib.OthersKept 5 (some b) w w' := by
  refine (Any.Buffer_WriteString_at Tryd.lays178 41 (fun _ => none) B b 0 (vals L) (strB M) w h hB (vals_one _) (by rw [vals_length, strB_size]; exact hl)).mono ?_
  rintro e w' ⟨rfl, h1, h2, h3⟩
  refine ⟨⟨_, rfl⟩, ?_, h2, h3⟩
  unfold Buf
  rw [show vals (L ++ M) = vals L ++ Lib.byteCells (strB M).data.toList by rw [show (strB M).data.toList = M.map UInt8.ofNat by simp [strB], byteCells_vals hM]; simp [vals]]
  exact h1
theorem writeByte_any {B b c : Nat} {L : List Nat} {w : World} (h : Buf B b L w) (hB : B ≤ w.heap.size) (hl : L.length + 1 ≤ 140737488355328) :
    Calls Tryd.prog 28 #[.pointer (some ⟨b, 0, none⟩), .int .u8 (c : Nat)] w fun e w' => e = .returned .nilIface ∧ Buf B b (L ++ [c]) w' ∧ Below B w w' ∧ Lib.OthersKept 5 (some b) w w' := by
  refine (Any.Buffer_WriteByte_at Tryd.lays179 41 (fun _ => none) B b 0 (vals L) (c : Nat) w h hB (vals_one _) (by rw [vals_length]; exact hl)).mono ?_
  rintro e w' ⟨rfl, h1, h2, h3⟩
  refine ⟨rfl, ?_, h2, h3⟩
  unfold Buf
  rw [show vals (L ++ [c]) = vals L ++ [.int .u8 (c : Nat)] by simp [vals]; rfl]
  exact h1
theorem Buf.lt {B b : Nat} {L : List Nat} {w : World} (h : Buf B b L w) : b < w.heap.size := LibA.IsBuffer.lt h
theorem Ro.kept {w w1 : World} {q b : Nat} {T : TypeId} {vs : List Value} (h : Ro w q T vs) (k : Lib.OthersKept 5 (some b) w w1) (hq : q ≠ b) (hT : T ≠ 5) : Ro w1 q T vs :=
  k q _ h (fun e => hq (by injection e)) (fun c fz e => by injection e with _ e2 _; exact hT e2)
theorem itoa_any {n : Int} (h : -9223372036854775808 ≤ n ∧ n ≤ 9223372036854775807) (w : World) (hLd : Laid w) :
    Calls Tryd.prog 29 #[.int .i64 n] w fun e w' => e = .returned (.string (strB (digN n))) ∧ Below w.heap.size w w' := by
  have htab : Lib.TabIs Tryd.prog w "internal/strconv.uint64pow10" .u64 Lib.pow10Tab := by
    obtain ⟨T, fr, hp⟩ := hLd.pows
    have g : Tryd.prog.globalNamed "internal/strconv.uint64pow10" = some 3 := by kernel_rfl
    simp only [Lib.TabIs, World.var?, g, Option.bind_some, hp]
  refine (Any.strconv_Itoa Tryd.lays171 n h.1 h.2 w htab).mono ?_
  rintro e w' ⟨rfl, k, os, rfl⟩
  refine ⟨?_, Lib.below_grow _ _ (Nat.le_refl _) _ _⟩
  have e : (⟨(Lib.itoa n).toArray⟩ : ByteArray) = strB (digN n) := by
    unfold strB digN
    rw [List.map_map]
    congr 2
    conv => lhs; rw [← List.map_id (Lib.itoa n)]
    apply List.map_congr_left
    intro x _
    simp
  rw [e]
end Go.Proofs.YtipbpecihbmneaaDoor
