/- The reference's text of bytes. No condition but a bound on the length. -/
import Derived.Test.YtjcphpmlekfhdaaGreatDoorGb
import Derived.Test.YtjcphpmlekfhdaaGreatDoorGa
import Derived.Test.YtjcphpmlekfhdaaGreatDoorGc
import Derived.BigQuiet
import Derived.Deep.QuietTactic
import Derived.WalkSmall
import Derived.BigRegion

namespace Go.Proofs.YtjcphpmlekfhdaaGreatDoor
open Go.RowKit

def textA (L : List Nat) (j : Nat) : List Nat := L ++ 128 :: List.replicate j 0
theorem textA_len (L : List Nat) (j : Nat) : (textA L j).length = L.length + 1 + j := by unfold textA; rw [List.length_append, List.length_cons, List.length_replicate]; omega
theorem textA_next (L : List Nat) (j : Nat) : textA L j ++ [0] = textA L (j + 1) := by
  unfold textA
  rw [List.append_assoc, List.cons_append, ← List.replicate_append_replicate (n := j) (m := 1)]
  rfl
def lenOf' : Value → Nat | .slice _ n _ => n | _ => 0
theorem textA_one (L : List Nat) : L ++ [128] = textA L 0 := rfl
theorem text_eq (L : List Nat) : text L = textA L (gapN L.length) ++ bits8 L.length := rfl
theorem bits8_take (n t : Nat) (h : t < 8) : (bits8 n).take (t + 1) = (bits8 n).take t ++ [n * 8 % 18446744073709551616 / 2 ^ (56 - 8 * t) % 256] := by
  rw [List.take_add_one]
  congr 1
  have : (bits8 n)[t]? = some (n * 8 % 18446744073709551616 / 2 ^ (56 - 8 * t) % 256) := by simp [bits8, h]
  rw [this]
  rfl

theorem Bs.litE (w : World) {V : Int} {x : Nat} (hV : V = (x : Int)) (h : x < 256) : Bs (w.alloc (.cells #[.int .u8 V] 5)) (some ⟨w.heap.size, 0, none⟩) 1 [x] := by subst hV; exact Bs.lit1 w h

set_option maxRecDepth 100000 in
set_option maxHeartbeats 4000000 in
theorem text_any {A : Option Addr} {n c : Nat} {L : List Nat} (w : World) (hn : n ≤ 549755813888) (hL : Bs w A n L) : Calls Tryz.prog 107 #[.slice A n c] w (GivesB w (text L)) := by
  have HL := Lib.hid hL
  have HN := Lib.hid hL.len
  clear hL
  go_enter Tryz.func107, Tryz.ntmps107
  go_wp2_with (at_builtin; refine wpList_app rfl _ _ rfl rfl (Own.made (Below.refl _ _) _ _ ?c1 ?c2) rfl (HL.out.later ((Below.refl _ _).alloc (Nat.le_refl _) _)) ?c3 ?_)
  case c1 => decide
  case c2 => rfl
  case c3 => omega
  intro A1 c1 w1 hc1 h1 _
  have O1 := Lib.hid h1
  clear h1
  go_wp2_with (at_builtin; refine wpList_app rfl _ _ rfl rfl (O1.out.later ((Below.refl _ _).alloc (Nat.le_refl _) _)) rfl (Bs.lit1 _ (x := 128) (by decide)) ?d3 ?_)
  case d3 => omega
  intro A2 c2 w2 hc2 h2 _
  have O2 : Hid (Own w (.slice A2 (n + 1) c2) (n + 1) (textA L 0) w2) := Lib.hid h2
  clear h2 O1
  go_wp2_with fail
  go_loopw [3] (fun v wr => ∃ (j : Nat) (A' : Option Addr) (c' : Nat), j ≤ gapN n ∧ v = .slice A' (n + 1 + j) c' ∧ Own w (.slice A' (n + 1 + j) c') (n + 1 + j) (textA L j) wr) (fun v _ => gapN n - (lenOf' v - n - 1))
  case atStart => exact ⟨0, A2, c2, Nat.zero_le _, rfl, O2.out⟩
  case round =>
    clear O2
    obtain ⟨j, A', c', hj, rfl, O⟩ := hrel
    have HO := Lib.hid O
    clear O
    have g64 : gapN n < 64 := Nat.mod_lt _ (by decide)
    have gf := gap_full n
    by_cases hlt : j < gapN n
    · have e1 : ¬ (((n + 1 + j : Nat) : Int) % 64 = 56) := by unfold gapN at *; omega
      have t1 : decide (((n + 1 + j : Nat) : Int) % 64 = 56) = false := decide_eq_false e1
      have t2 : (((n + 1 + j : Nat) : Int) % 64 != 56) = true := by rw [bne_iff_ne]; exact e1
      go_wp2_with (at_builtin; refine wpList_app rfl _ _ rfl rfl (HO.out.later ((Below.refl _ _).alloc (Nat.le_refl _) _)) rfl (Bs.lit1 _ (x := 0) (by decide)) ?d3 ?_)
      case d3 => omega
      intro A3 c3 w3 hc3 h3 _
      have O3 := Lib.hid h3
      clear h3
      go_wp2_with fail
      exact ⟨⟨j + 1, A3, c3, by omega, rfl, by rw [← textA_next]; exact O3.out⟩, by simp [lenOf']; omega⟩
    · obtain rfl : j = gapN n := by omega
      obtain ⟨j, hjj⟩ : ∃ j, gapN n = j := ⟨_, rfl⟩
      rw [hjj] at HO g64 gf ⊢
      have e1 : ((n + 1 + j : Nat) : Int) % 64 = 56 := by omega
      have t1 : decide (((n + 1 + j : Nat) : Int) % 64 = 56) = true := decide_eq_true e1
      have t2 : (((n + 1 + j : Nat) : Int) % 64 != 56) = false := by simp only [bne_eq_false_iff_eq]; exact e1
      have HJ := Lib.hid hjj
      have LJ : n + 1 + j + 8 ≤ 1099511627776 := by omega
      clear hlt gf hjj hj
      have E0 : Hid (Own w (.slice A' (n + 1 + j + 0) c') (n + 1 + j + 0) (textA L j ++ (bits8 n).take 0) wr) := Lib.hid (by rw [List.take_zero, List.append_nil]; exact HO.out)
      clear HO
      go_wp2_with fail
      have t3 : (((n : Int) + 1 + (j : Int)) % 64 != 56) = false := by simp only [bne_eq_false_iff_eq]; omega
      rw [t3]
      clear t1 t2 e1 t3
      go_loopw [3, 5] (fun v i wr => ∃ (t : Nat) (A' : Option Addr) (c' : Nat), t ≤ 8 ∧ v = .slice A' (n + 1 + j + t) c' ∧ i = .int .i64 (7 - (t : Int)) ∧ Own w (.slice A' (n + 1 + j + t) c') (n + 1 + j + t) (textA L j ++ (bits8 n).take t) wr) (fun _ i _ => (intOf i + 1).toNat)
      case atStart => exact ⟨0, A', c', by omega, rfl, rfl, E0.out⟩
      case round =>
        clear E0
        obtain ⟨t, A4, c4, ht, rfl, rfl, O⟩ := hrel
        have HQ := Lib.hid O
        clear O
        by_cases hlt : t < 8
        · have BT := Lib.hid (bits8_take n t hlt)
          have z8 : t = 0 ∨ t = 1 ∨ t = 2 ∨ t = 3 ∨ t = 4 ∨ t = 5 ∨ t = 6 ∨ t = 7 := by omega
          clear hlt ht
          rcases z8 with rfl | rfl | rfl | rfl | rfl | rfl | rfl | rfl
          · go_wp2_with (at_builtin; refine wpList_app rfl _ _ rfl rfl (HQ.out.later ((Below.refl _ _).alloc (Nat.le_refl _) _)) rfl (Bs.litE _ (x := n * 8 % 18446744073709551616 / 72057594037927936 % 256) ?e1 (Nat.mod_lt _ (by decide))) ?e2 ?_)
            case e1 => omega
            case e2 => omega
            intro A3 c3 w3 hc3 h3 _
            have O3 := Lib.hid h3
            clear h3
            go_wp2_with fail
            exact ⟨⟨1, A3, c3, by omega, rfl, rfl, by have h := O3.out; rw [BT.out, ← List.append_assoc]; first | exact h | simpa using h⟩, by simp [intOf]⟩
          · go_wp2_with (at_builtin; refine wpList_app rfl _ _ rfl rfl (HQ.out.later ((Below.refl _ _).alloc (Nat.le_refl _) _)) rfl (Bs.litE _ (x := n * 8 % 18446744073709551616 / 281474976710656 % 256) ?e1 (Nat.mod_lt _ (by decide))) ?e2 ?_)
            case e1 => omega
            case e2 => omega
            intro A3 c3 w3 hc3 h3 _
            have O3 := Lib.hid h3
            clear h3
            go_wp2_with fail
            exact ⟨⟨2, A3, c3, by omega, rfl, rfl, by have h := O3.out; rw [BT.out, ← List.append_assoc]; first | exact h | simpa using h⟩, by simp [intOf]⟩
          · go_wp2_with (at_builtin; refine wpList_app rfl _ _ rfl rfl (HQ.out.later ((Below.refl _ _).alloc (Nat.le_refl _) _)) rfl (Bs.litE _ (x := n * 8 % 18446744073709551616 / 1099511627776 % 256) ?e1 (Nat.mod_lt _ (by decide))) ?e2 ?_)
            case e1 => omega
            case e2 => omega
            intro A3 c3 w3 hc3 h3 _
            have O3 := Lib.hid h3
            clear h3
            go_wp2_with fail
            exact ⟨⟨3, A3, c3, by omega, rfl, rfl, by have h := O3.out; rw [BT.out, ← List.append_assoc]; first | exact h | simpa using h⟩, by simp [intOf]⟩
          · go_wp2_with (at_builtin; refine wpList_app rfl _ _ rfl rfl (HQ.out.later ((Below.refl _ _).alloc (Nat.le_refl _) _)) rfl (Bs.litE _ (x := n * 8 % 18446744073709551616 / 4294967296 % 256) ?e1 (Nat.mod_lt _ (by decide))) ?e2 ?_)
            case e1 => omega
            case e2 => omega
            intro A3 c3 w3 hc3 h3 _
            have O3 := Lib.hid h3
            clear h3
            go_wp2_with fail
            exact ⟨⟨4, A3, c3, by omega, rfl, rfl, by have h := O3.out; rw [BT.out, ← List.append_assoc]; first | exact h | simpa using h⟩, by simp [intOf]⟩
          · go_wp2_with (at_builtin; refine wpList_app rfl _ _ rfl rfl (HQ.out.later ((Below.refl _ _).alloc (Nat.le_refl _) _)) rfl (Bs.litE _ (x := n * 8 % 18446744073709551616 / 16777216 % 256) ?e1 (Nat.mod_lt _ (by decide))) ?e2 ?_)
            case e1 => omega
            case e2 => omega
            intro A3 c3 w3 hc3 h3 _
            have O3 := Lib.hid h3
            clear h3
            go_wp2_with fail
            exact ⟨⟨5, A3, c3, by omega, rfl, rfl, by have h := O3.out; rw [BT.out, ← List.append_assoc]; first | exact h | simpa using h⟩, by simp [intOf]⟩
          · go_wp2_with (at_builtin; refine wpList_app rfl _ _ rfl rfl (HQ.out.later ((Below.refl _ _).alloc (Nat.le_refl _) _)) rfl (Bs.litE _ (x := n * 8 % 18446744073709551616 / 65536 % 256) ?e1 (Nat.mod_lt _ (by decide))) ?e2 ?_)
            case e1 => omega
            case e2 => omega
            intro A3 c3 w3 hc3 h3 _
            have O3 := Lib.hid h3
            clear h3
            go_wp2_with fail
            exact ⟨⟨6, A3, c3, by omega, rfl, rfl, by have h := O3.out; rw [BT.out, ← List.append_assoc]; first | exact h | simpa using h⟩, by simp [intOf]⟩
          · go_wp2_with (at_builtin; refine wpList_app rfl _ _ rfl rfl (HQ.out.later ((Below.refl _ _).alloc (Nat.le_refl _) _)) rfl (Bs.litE _ (x := n * 8 % 18446744073709551616 / 256 % 256) ?e1 (Nat.mod_lt _ (by decide))) ?e2 ?_)
            case e1 => omega
            case e2 => omega
            intro A3 c3 w3 hc3 h3 _
            have O3 := Lib.hid h3
            clear h3
            go_wp2_with fail
            exact ⟨⟨7, A3, c3, by omega, rfl, rfl, by have h := O3.out; rw [BT.out, ← List.append_assoc]; first | exact h | simpa using h⟩, by simp [intOf]⟩
          · go_wp2_with (at_builtin; refine wpList_app rfl _ _ rfl rfl (HQ.out.later ((Below.refl _ _).alloc (Nat.le_refl _) _)) rfl (Bs.litE _ (x := n * 8 % 18446744073709551616 / 1 % 256) ?e1 (Nat.mod_lt _ (by decide))) ?e2 ?_)
            case e1 => omega
            case e2 => omega
            intro A3 c3 w3 hc3 h3 _
            have O3 := Lib.hid h3
            clear h3
            go_wp2_with fail
            exact ⟨⟨8, A3, c3, by omega, rfl, rfl, by have h := O3.out; rw [BT.out, ← List.append_assoc]; first | exact h | simpa using h⟩, by simp [intOf]⟩
        · obtain rfl : t = 8 := by omega
          go_wp2_with fail
          go_ret
          refine ⟨A4, _, c4, rfl, ?_, ?_⟩
          · have h := HQ.out.shape
            obtain ⟨a, b, h1, h2⟩ := h
            injection h1 with _ _ h3
            omega
          · have h := HQ.out
            rw [List.take_of_length_le (by rw [bits8_len]; exact Nat.le_refl _)] at h
            rw [text_eq, HN.out, HJ.out]
            exact h
end Go.Proofs.YtjcphpmlekfhdaaGreatDoor

/- Lists of words of 32 bits in memory, as XB has them for bytes. No condition. -/
namespace Go.Proofs.YtjcphpmlekfhdaaGreatDoor
open Go.RowKit

theorem Tryz.infoWord : (Tryz.prog.info? 149).map (fun i => (i.zero, i.size, i.bytes)) = some (some (.int .u32 0), 1, 4) := by kernel_rfl
def AllW (_ : List Nat) : Prop := True
theorem AllW.app {L M : List Nat} (_ : AllW L) (_ : AllW M) : AllW (L ++ M) := trivial
theorem AllW.left {L M : List Nat} (_ : AllW (L ++ M)) : AllW L := trivial
theorem allW_nil : AllW [] := trivial
theorem allW_one {x : Nat} (_ : x < 4294967296) : AllW [x] := trivial
theorem u32s_append (L M : List Nat) : u32s (L ++ M) = u32s L ++ u32s M := by simp [u32s]
theorem u32s_get? {L : List Nat} {k : Nat} {u : Value} (h : (u32s L)[k]? = some u) : k < L.length ∧ u = .int .u32 (nth L k : Nat) := by
  have hk : k < L.length := by have := (List.getElem?_eq_some_iff.1 h).1; rwa [u32s_len] at this
  rw [u32s_get L k hk] at h
  exact ⟨hk, (Option.some.inj h).symm⟩

/-- A slice at A of n elements reads as the bytes L. -/
structure Ws (w : World) (A : Option Addr) (n : Nat) (L : List Nat) : Prop where
  len : L.length = n
  byt : AllW L
  cel : 0 < n → ∃ a, A = some a ∧ a.block < w.heap.size ∧ ∀ k, k < n → w.cell? (a.add k) = some (.int .u32 (nth L k : Nat))
theorem Ws.nil (w : World) (A : Option Addr) : Ws w A 0 [] := ⟨rfl, allW_nil, fun h => absurd h (by omega)⟩
theorem Ws.later {w w1 : World} {A : Option Addr} {n : Nat} {L : List Nat} (h : Ws w A n L) (g : Below w.heap.size w w1) : Ws w1 A n L :=
  ⟨h.len, h.byt, fun hn => by
    obtain ⟨a, e, hb, hc⟩ := h.cel hn
    exact ⟨a, e, Nat.lt_of_lt_of_le hb g.size, fun k hk => by rw [← hc k hk]; exact g.cell (by rw [add_block]; exact hb)⟩⟩
theorem Ws.far {w w1 : World} {A : Option Addr} {n : Nat} {L : List Nat} {row : Option Nat} (h : Ws w A n L) (g : w.grownBy w1 row) (hr : ∀ a, A = some a → some a.block ≠ row) : Ws w1 A n L :=
  ⟨h.len, h.byt, fun hn => by
    obtain ⟨a, e, hb, hc⟩ := h.cel hn
    exact ⟨a, e, Nat.lt_of_lt_of_le hb g.size, fun k hk => g.cell (hc k hk) (by rw [add_block]; exact hr a e)⟩⟩
theorem Ws.cells {w : World} {a : Addr} {n : Nat} {L : List Nat} (h : Ws w (some a) n L) : ∀ j u, (u32s L)[j]? = some u → w.cell? (a.add j) = some u := by
  intro j u hu
  obtain ⟨hj, rfl⟩ := u32s_get? hu
  have hl := h.len
  obtain ⟨b, e, _, hc⟩ := h.cel (by omega)
  injection e with e
  subst e
  exact hc j (by omega)
/-- A part of a slice, from k on, m long, as the walk spells its address. -/
theorem Ws.cut {w : World} {A : Option Addr} {n c : Nat} {L : List Nat} (h : Ws w A n L) {k m : Nat} (hk : k + m ≤ n) (hc : n ≤ c) :
    Ws w (if c = k then A else A.map (·.add k)) m ((L.drop k).take m) := by
  have hl := h.len
  refine ⟨by simp; omega, trivial, fun hm => ?_⟩
  obtain ⟨a, rfl, hb, hcel⟩ := h.cel (by omega)
  rw [if_neg (by omega)]
  refine ⟨a.add k, rfl, by rw [add_block]; exact hb, fun j hj => ?_⟩
  rw [add_add', hcel (k + j) (by omega)]
  have : nth ((L.drop k).take m) j = nth L (k + j) := by
    simp [nth, List.getD, hj]
  rw [this]
theorem Ws.head {w : World} {A : Option Addr} {n : Nat} {L M : List Nat} (h : Ws w A n (L ++ M)) {m : Nat} (hm : L.length = m) : Ws w A m L := by
  have hl := h.len
  rw [List.length_append] at hl
  refine ⟨hm, h.byt.left, fun hp => ?_⟩
  obtain ⟨a, e, hb, hc⟩ := h.cel (by omega)
  exact ⟨a, e, hb, fun k hk => by rw [hc k (by omega), nth_left (by omega)]⟩

/-- v is a row of the call's own that reads as L; of what lay in w0 nothing has turned. -/
structure Wn (w0 : World) (v : Value) (n : Nat) (L : List Nat) (wr : World) : Prop where
  row : wr.ownsRow w0.heap.size 149 1 v n (u32s L)
  byt : AllW L
  bel : Below w0.heap.size w0 wr
theorem Wn.len {w0 wr : World} {v : Value} {n : Nat} {L : List Nat} (h : Wn w0 v n L wr) : L.length = n := by
  have := h.row.1
  rw [u32s_len] at this; omega
theorem Wn.later {w0 wr w1 : World} {v : Value} {n : Nat} {L : List Nat} (h : Wn w0 v n L wr) (g : Below wr.heap.size wr w1) : Wn w0 v n L w1 :=
  ⟨ownsRow_later h.row g, h.byt, h.bel.trans (g.mono h.bel.size)⟩
theorem Wn.size {w0 wr : World} {v : Value} {n : Nat} {L : List Nat} (h : Wn w0 v n L wr) : w0.heap.size ≤ wr.heap.size := h.bel.size
theorem Wn.reads {w0 wr : World} {A : Option Addr} {n c : Nat} {L : List Nat} (h : Wn w0 (.slice A n c) n L wr) : Ws wr A n L := by
  have hl := h.len
  refine ⟨hl, h.byt, fun hn => ?_⟩
  obtain ⟨g, cap, hv, _, hlt⟩ := h.row.form hn
  have hA : A = some ⟨g, 0, none⟩ := by injection hv
  subst hA
  exact ⟨_, rfl, hlt, fun k hk => h.row.cells (g := g) rfl k _ (u32s_get L k (by omega))⟩
theorem Wn.shape {w0 wr : World} {v : Value} {n : Nat} {L : List Nat} (h : Wn w0 v n L wr) : ∃ A c, v = .slice A n c ∧ n ≤ c := by
  rcases h.row.2 with ⟨rfl, rfl⟩ | ⟨g, cap, cur, rfl, _, _, hc, _⟩
  · exact ⟨none, 0, rfl, Nat.le_refl _⟩
  · exact ⟨_, _, rfl, hc⟩
/-- The row's block is none of what lay in w0. -/
theorem Wn.new {w0 wr : World} {v : Value} {n : Nat} {L : List Nat} (h : Wn w0 v n L wr) : ∀ k, v.ownBlock = some k → w0.heap.size ≤ k ∧ k < wr.heap.size := h.row.lt
theorem Wn.grown {w0 wr w1 : World} {v v' : Value} {n m : Nat} {L M : List Nat} (h : Wn w0 v n L wr) (hM : AllW M) (hown : w1.ownsRow w0.heap.size 149 1 v' (n + m) (u32s L ++ u32s M)) (hg : wr.grownBy w1 v.ownBlock) : Wn w0 v' (n + m) (L ++ M) w1 :=
  ⟨by rw [u32s_append]; exact hown, h.byt.app hM, h.bel.grown hg h.bel.size (fun k hk => (h.new k hk).1)⟩
theorem Wn.weaken {w0 w2 wr : World} {v : Value} {n : Nat} {L : List Nat} (h : Wn w2 v n L wr) (b : Below w0.heap.size w0 w2) : Wn w0 v n L wr :=
  ⟨by
    obtain ⟨h1, h2⟩ := h.row
    refine ⟨h1, ?_⟩
    rcases h2 with h2 | ⟨g, cap, cur, hv, hb, hh, r⟩
    · exact Or.inl h2
    · exact Or.inr ⟨g, cap, cur, hv, Nat.le_trans b.size hb, hh, r⟩, h.byt, b.trans (h.bel.mono b.size)⟩

/-- A list of a literal. -/
theorem Ws.lit (w : World) (L : List Nat) (h : AllW L) : Ws (w.alloc (.cells (u32s L).toArray 149)) (some ⟨w.heap.size, 0, none⟩) L.length L := by
  refine ⟨rfl, h, fun _ => ⟨_, rfl, by simp, fun k hk => ?_⟩⟩
  have e : (⟨w.heap.size, 0, none⟩ : Addr).add k = ⟨w.heap.size, k, none⟩ := by unfold Addr.add; split <;> simp_all
  rw [e]
  have hh := heap_alloc_new w (.cells (u32s L).toArray 149)
  unfold World.cell?
  simp only [hh]
  simpa using u32s_get L k hk
theorem Ws.lit1 (w : World) {x : Nat} (h : x < 4294967296) : Ws (w.alloc (.cells #[.int .u32 (x : Int)] 149)) (some ⟨w.heap.size, 0, none⟩) 1 [x] := Ws.lit w [x] (allW_one h)
/-- A new row, empty, of whatever capacity. -/
theorem Wn.made {w0 w : World} (b : Below w0.heap.size w0 w) (cur : Array Value) (cap : Nat) (hm : cap ≤ maxLen) (hs : cur.size = cap) :
    Wn w0 (.slice (some ⟨w.heap.size, 0, none⟩) 0 cap) 0 [] (w.alloc (.cells cur 149)) :=
  ⟨World.ownsRow_made w cur cap b.size hm (by omega), allW_nil, b.alloc b.size _⟩
theorem Wn.full {w0 w : World} (b : Below w0.heap.size w0 w) (L : List Nat) (hL : AllW L) (cap : Nat) (hm : cap ≤ maxLen) (cur : Array Value) (hs : cur.size = cap) (hn : L.length ≤ cap) (ht : cur.toList.take L.length = u32s L)
    {g : Nat} (hg : w0.heap.size ≤ g) (hw : w.heap[g]? = some (.cells cur 149 (0, 0))) :
    Wn w0 (.slice (some ⟨g, 0, none⟩) L.length cap) L.length L w :=
  ⟨⟨by rw [u32s_len]; omega, .inr ⟨g, cap, cur, rfl, hg, hw, hn, hm, by omega, by simpa using ht⟩⟩, hL, b⟩

section
variable {w0 w : World} {ops : Array Oper} {rest : List Oper} {o : Oper} {a : Act} {Q : Exit → Act → World → Prop}
/-- append onto a row of the call's own. -/
theorem wp_appw {K : Act → World → Prop} (s x : Operand) (ho : o.op = .call { callee := .builtin .append, args := #[s, x], argTypes := #[157, 157] })
    {v : Value} {n : Nat} {L : List Nat} (hs : a.eval s = v) (hown : Wn w0 v n L w) {A : Option Addr} {m c : Nat} {M : List Nat} (hx : a.eval x = .slice A m c) (hr : Ws w A m M) (hlen : n + m ≤ 1099511627776)
    (h : ∀ A' c' w', n + m ≤ c' → Wn w0 (.slice A' (n + m) c') (n + m) (L ++ M) w' → w.grownBy w' v.ownBlock → K (a.put o.dst (.slice A' (n + m) c')) w') : o.wp Tryz.prog a w K Q := by
  obtain ⟨i0, hi, hz0, hz1, hz2⟩ := info_parts Tryz.infoWord
  have key : ∀ v' w', Wn w0 v' (n + m) (L ++ M) w' → w.grownBy w' v.ownBlock → K (a.put o.dst v') w' := fun v' w' h1 h2 => by
    obtain ⟨A', c', rfl, hc⟩ := h1.shape
    exact h A' c' w' hc h1 h2
  have hsz := hown.size
  rcases A with _ | ad
  · obtain rfl : m = 0 := by
      rcases Nat.eq_zero_or_pos m with h0 | h0
      · exact h0
      · obtain ⟨_, e, _⟩ := hr.cel h0
        cases e
    obtain rfl : M = [] := List.eq_nil_of_length_eq_zero hr.len
    have hrun : (Builtin.append_ #[157, 157] o.type #[v, .slice none 0 c]).run Tryz.prog w = .ok v w := by
      rcases hown.row.2 with ⟨rfl, rfl⟩ | ⟨g, cap, cur, rfl, _, _, hnc, _⟩
      · simp [Builtin.append_, run_underlying Tryz.underlying157, sizeOf, typeInfo, hi, Builtin.lenOf, Builtin.firstCells]
      · simp [Builtin.append_, run_underlying Tryz.underlying157, sizeOf, typeInfo, hi, Builtin.lenOf, Builtin.firstCells, hnc, storeCells]
    unfold Oper.wp
    simp [execOp, ho, resolve, invoke, builtin, hs, hx, hrun, Result.andThen]
    exact key v w (by simpa using hown) (World.grownBy.refl _ _)
  · refine wp_append_own w s x 157 ho w0.heap.size 149 i0 (.int .u32 0) 1 4 Tryz.underlying157 hi hz0 hz1 hz2 rfl (by decide) v n (u32s L) hs hown.row ad m c (u32s M) hx (by rw [u32s_len, hr.len]; omega) hr.cells (u32s_one M) (by unfold maxLen; omega) (by omega) hsz ?_
    intro v' w' h1 h2 _
    exact key v' w' (hown.grown hr.byt h1 h2) h2
theorem wpList_appw (hgd : o.guard = none) (s x : Operand) (ho : o.op = .call { callee := .builtin .append, args := #[s, x], argTypes := #[157, 157] })
    {v : Value} {n : Nat} {L : List Nat} (hs : a.eval s = v) (hown : Wn w0 v n L w) {A : Option Addr} {m c : Nat} {M : List Nat} (hx : a.eval x = .slice A m c) (hr : Ws w A m M) (hlen : n + m ≤ 1099511627776)
    (h : ∀ A' c' w', n + m ≤ c' → Wn w0 (.slice A' (n + m) c') (n + m) (L ++ M) w' → w.grownBy w' v.ownBlock → wpList Tryz.prog ops Q rest (a.put o.dst (.slice A' (n + m) c')) w') : wpList Tryz.prog ops Q (o :: rest) a w :=
  wpList_plain hgd fun _ hK => wp_appw s x ho hs hown hx hr hlen fun A' c' w' h1 h2 h3 => hK _ _ (h A' c' w' h1 h2 h3)
theorem step_appw {K : Act → World → Prop} {E : Prop} (hgd : o.guard = none) (s x : Operand) (ho : o.op = .call { callee := .builtin .append, args := #[s, x], argTypes := #[157, 157] })
    {v : Value} {n : Nat} {L : List Nat} (hs : a.eval s = v) (hown : Wn w0 v n L w) {A : Option Addr} {m c : Nat} {M : List Nat} (hx : a.eval x = .slice A m c) (hr : Ws w A m M) (hlen : n + m ≤ 1099511627776)
    (h : ∀ A' c' w', n + m ≤ c' → Wn w0 (.slice A' (n + m) c') (n + m) (L ++ M) w' → w.grownBy w' v.ownBlock → K (a.put o.dst (.slice A' (n + m) c')) w') :
    if Region.wanted o (yielded ops a.tmps) = true then Oper.wp Tryz.prog o a w K Q else E := by
  have hw : Region.wanted o (yielded ops a.tmps) = true := by simp [Region.wanted, hgd]
  rw [if_pos hw]
  exact wp_appw s x ho hs hown hx hr hlen h
theorem wpList_appw_eq (hgd : o.guard = none) (s x : Operand) (ho : o.op = .call { callee := .builtin .append, args := #[s, x], argTypes := #[157, 157] })
    {v : Value} {n : Nat} {L : List Nat} (hs : a.eval s = v) (hown : Wn w0 v n L w) {A : Option Addr} {m m' c : Nat} {M : List Nat} (hx : a.eval x = .slice A m' c) (e : m' = m) (hr : Ws w A m M) (hlen : n + m ≤ 1099511627776)
    (h : ∀ A' c' w', n + m ≤ c' → Wn w0 (.slice A' (n + m) c') (n + m) (L ++ M) w' → w.grownBy w' v.ownBlock → wpList Tryz.prog ops Q rest (a.put o.dst (.slice A' (n + m) c')) w') : wpList Tryz.prog ops Q (o :: rest) a w := by
  subst e; exact wpList_appw hgd s x ho hs hown hx hr hlen h
end

end Go.Proofs.YtjcphpmlekfhdaaGreatDoor

/- The reference's words of a piece. No condition but that the piece is 64 bytes. -/
namespace Go.Proofs.YtjcphpmlekfhdaaGreatDoor
open Go.RowKit

theorem Wn.nil_ {w wr : World} (b : Below w.heap.size w wr) : Wn w (.slice none 0 0) 0 [] wr := ⟨⟨rfl, .inl ⟨rfl, rfl⟩⟩, allW_nil, b⟩
def lenW : Value → Nat | .slice _ n _ => n | _ => 0
def GivesW (w : World) (L : List Nat) (e : Ending) (w' : World) : Prop := ∃ A n c, e = .returned (.slice A n c) ∧ n ≤ c ∧ Wn w (.slice A n c) n L w'
theorem Ws.litE (w : World) {V : Int} {x : Nat} (hV : V = (x : Int)) (h : x < 4294967296) : Ws (w.alloc (.cells #[.int .u32 V] 149)) (some ⟨w.heap.size, 0, none⟩) 1 [x] := by subst hV; exact Ws.lit1 w h

theorem run_appW {w0 w : World} {v : Value} {n m c : Nat} {L M : List Nat} {A : Option Addr} (ty : TypeId) (hown : Wn w0 v n L w) (hr : Ws w A m M) (h0 : 0 < m) (hlen : n + m ≤ 1099511627776) :
    ∃ A' c' w', (Builtin.append_ #[157, 157] ty #[v, .slice A m c]).run Tryz.prog w = .ok (.slice A' (n + m) c') w' ∧ Wn w0 (.slice A' (n + m) c') (n + m) (L ++ M) w' ∧ w.grownBy w' v.ownBlock := by
  obtain ⟨i0, hi, hz0, hz1, hz2⟩ := info_parts Tryz.infoWord
  have hsz := hown.size
  obtain ⟨ad, rfl, _, hcel⟩ := hr.cel h0
  obtain ⟨v', w', h1, h2, h3, _, h5⟩ := run_append_own_at (P := Tryz.prog) w w0.heap.size 157 ty 149 i0 (.int .u32 0) 1 4 Tryz.underlying157 hi hz0 hz1 hz2 rfl (by decide) v n (u32s L) hown.row ad m c (u32s M) (by rw [u32s_len, hr.len, Nat.mul_one]) hr.cells (u32s_one M) (by unfold maxLen; omega) (by omega) hsz
  have o := hown.grown hr.byt h2 h3
  obtain ⟨A', c', rfl, _⟩ := o.shape
  exact ⟨A', c', w', h1, o, h3⟩
/-- append, by a name that the walk does not lay open. -/
def appW (args : Array Value) : Sem Value := Builtin.append_ #[157, 157] 157 args
theorem appW_mark (args : Array Value) : Builtin.append_ #[157, 157] 157 args = appW args := rfl
attribute [local go_sem ↓] appW_mark

set_option maxRecDepth 100000 in
set_option maxHeartbeats 4000000 in
theorem words_any {A : Option Addr} {c : Nat} {p : List Nat} (w : World) (hp : Bs w A 64 p) : Calls Tryz.prog 109 #[.slice A 64 c] w (GivesW w (sched p 64)) := by
  have HP := Lib.hid hp
  clear hp
  obtain ⟨a, rfl, _⟩ := HP.out.cel (by omega)
  go_enter Tryz.func109, Tryz.ntmps109
  go_wp2_with fail
  go_loopw [3, 4] (fun v i wr => ∃ (t : Nat) (A' : Option Addr) (c' : Nat), t ≤ 16 ∧ v = .slice A' t c' ∧ i = .int .i64 (t : Nat) ∧ Wn w (.slice A' t c') t (sched p t) wr) (fun _ i _ => 16 - (intOf i).toNat)
  case atStart => exact ⟨0, none, 0, by omega, rfl, rfl, Wn.nil_ (Below.refl _ _)⟩
  case round =>
    obtain ⟨t, A', c', ht, rfl, rfl, O⟩ := hrel
    have HO := Lib.hid O
    clear O
    by_cases hlt : t < 16
    · have t1 : decide ((t : Int) < 16) = true := decide_eq_true (by omega)
      have HR := Lib.hid (HP.out.later HO.out.bel)
      have b0 := nth_lt HP.out.byt (4 * t)
      have b1 := nth_lt HP.out.byt (4 * t + 1)
      have b2 := nth_lt HP.out.byt (4 * t + 2)
      have b3 := nth_lt HP.out.byt (4 * t + 3)
      obtain ⟨x0, hx0⟩ : ∃ x, nth p (4 * t) = x := ⟨_, rfl⟩
      obtain ⟨x1, hx1⟩ : ∃ x, nth p (4 * t + 1) = x := ⟨_, rfl⟩
      obtain ⟨x2, hx2⟩ : ∃ x, nth p (4 * t + 2) = x := ⟨_, rfl⟩
      obtain ⟨x3, hx3⟩ : ∃ x, nth p (4 * t + 3) = x := ⟨_, rfl⟩
      rw [hx0] at b0
      rw [hx1] at b1
      rw [hx2] at b2
      rw [hx3] at b3
      have hw : sched p (t + 1) = sched p t ++ [og (og (og (sl x0 24) (sl x1 16)) (sl x2 8)) x3] := by
        rw [sched, if_pos hlt]; unfold word; rw [hx0, hx1, hx2, hx3]
      have HW := Lib.hid hw
      have H0 := Lib.hid hx0
      have H1 := Lib.hid hx1
      have H2 := Lib.hid hx2
      have H3 := Lib.hid hx3
      clear hw hx0 hx1 hx2 hx3
      have l0 : wr.cell? (a.add (4 * t)) = some (.int .u8 (x0 : Int)) := by
        obtain ⟨a2, e, _, h, _⟩ := HR.out.at_ (k := 4 * t) (by omega)
        injection e with e; subst e; rw [h, H0.out]
      have l1 : wr.cell? (a.add (4 * t + 1)) = some (.int .u8 (x1 : Int)) := by
        obtain ⟨a2, e, _, h, _⟩ := HR.out.at_ (k := 4 * t + 1) (by omega)
        injection e with e; subst e; rw [h, H1.out]
      have l2 : wr.cell? (a.add (4 * t + 2)) = some (.int .u8 (x2 : Int)) := by
        obtain ⟨a2, e, _, h, _⟩ := HR.out.at_ (k := 4 * t + 2) (by omega)
        injection e with e; subst e; rw [h, H2.out]
      have l3 : wr.cell? (a.add (4 * t + 3)) = some (.int .u8 (x3 : Int)) := by
        obtain ⟨a2, e, _, h, _⟩ := HR.out.at_ (k := 4 * t + 3) (by omega)
        injection e with e; subst e; rw [h, H3.out]
      have m1 : wr.cell? ⟨a.block, a.off + (4 * t + 1), none⟩ = some (.int .u8 (x1 : Int)) := by
        rw [← l1]; unfold Addr.add; rw [if_neg (by omega)]
      have m2 : wr.cell? ⟨a.block, a.off + (4 * t + 2), none⟩ = some (.int .u8 (x2 : Int)) := by
        rw [← l2]; unfold Addr.add; rw [if_neg (by omega)]
      have m3 : wr.cell? ⟨a.block, a.off + (4 * t + 3), none⟩ = some (.int .u8 (x3 : Int)) := by
        rw [← l3]; unfold Addr.add; rw [if_neg (by omega)]
      have E := word_bits (x3 := x3) b0 b1 b2
      have E256 : og (og (og (sl x0 24) (sl x1 16)) (sl x2 8)) x3 < 4294967296 := Nat.mod_lt _ (by decide)
      obtain ⟨X, hX⟩ : ∃ X, og (og (og (sl x0 24) (sl x1 16)) (sl x2 8)) x3 = X := ⟨_, rfl⟩
      rw [hX] at E E256 HW
      have HLIT : Hid (Ws ((wr.alloc (.cells #[.int .u32 (X : Int)] 149)).drew) (some ⟨wr.heap.size, 0, none⟩) 1 [X]) := Lib.hid ((Ws.lit1 wr E256).later (Below.refl _ _).drew)
      clear hX
      have v0 : IntKind.i64.wrap (4 * (t : Int)) = 4 * (t : Int) := by rw [IntKind.wrap_i64]; omega
      have v1 : IntKind.i64.wrap (4 * (t : Int) + 1) = 4 * (t : Int) + 1 := by rw [IntKind.wrap_i64]; omega
      have v2 : IntKind.i64.wrap (4 * (t : Int) + 2) = 4 * (t : Int) + 2 := by rw [IntKind.wrap_i64]; omega
      have v3 : IntKind.i64.wrap (4 * (t : Int) + 3) = 4 * (t : Int) + 3 := by rw [IntKind.wrap_i64]; omega
      have p0 : (0 : Int) ≤ 4 * (t : Int) := by omega
      have q0 : 4 * (t : Int) < 64 := by omega
      have p1 : (0 : Int) ≤ 4 * (t : Int) + 1 := by omega
      have q1 : 4 * (t : Int) + 1 < 64 := by omega
      have p2 : (0 : Int) ≤ 4 * (t : Int) + 2 := by omega
      have q2 : 4 * (t : Int) + 2 < 64 := by omega
      have p3 : (0 : Int) ≤ 4 * (t : Int) + 3 := by omega
      have q3 : 4 * (t : Int) + 3 < 64 := by omega
      have t0 : (4 * (t : Int)).toNat = 4 * t := by omega
      have ti1 : (4 * (t : Int) + 1).toNat = 4 * t + 1 := by omega
      have ti2 : (4 * (t : Int) + 2).toNat = 4 * t + 2 := by omega
      have ti3 : (4 * (t : Int) + 3).toNat = 4 * t + 3 := by omega
      have y0 : IntKind.u32.wrap (x0 : Int) = (x0 : Int) := by rw [IntKind.wrap_u32']; omega
      have y1 : IntKind.u32.wrap (x1 : Int) = (x1 : Int) := by rw [IntKind.wrap_u32']; omega
      have y2 : IntKind.u32.wrap (x2 : Int) = (x2 : Int) := by rw [IntKind.wrap_u32']; omega
      have y3 : IntKind.u32.wrap (x3 : Int) = (x3 : Int) := by rw [IntKind.wrap_u32']; omega
      have z0 : IntKind.u32.wrap ((x0 : Int) * 16777216) = (x0 : Int) * 16777216 := by rw [IntKind.wrap_u32']; omega
      have z1 : IntKind.u32.wrap ((x1 : Int) * 65536) = (x1 : Int) * 65536 := by rw [IntKind.wrap_u32']; omega
      have z2 : IntKind.u32.wrap ((x2 : Int) * 256) = (x2 : Int) * 256 := by rw [IntKind.wrap_u32']; omega
      obtain ⟨A5, c5, w5, r1, O5, _⟩ := run_appW (c := 1) 157 (HO.out.later ((Below.refl _ _).alloc (Nat.le_refl _) (.cells #[.int .u32 (X : Int)] 149)).drew) HLIT.out (by decide) (by omega)
      rw [appW_mark] at r1
      have H5 := Lib.hid O5
      clear O5
      go_wp2_with fail
      go_region
      all_goals go_wp2_with fail
      exact ⟨⟨t + 1, A5, c5, by omega, rfl, by go_num, by rw [HW.out]; exact H5.out⟩, by simp [intOf]; omega⟩
    · obtain rfl : t = 16 := by omega
      rw [show ((16 : Nat) : Int) = 16 from rfl]
      go_wp2_with fail
      go_loopw [3, 5] (fun v i wr => ∃ (t : Nat) (A' : Option Addr) (c' : Nat), 16 ≤ t ∧ t ≤ 64 ∧ v = .slice A' t c' ∧ i = .int .i64 (t : Nat) ∧ Wn w (.slice A' t c') t (sched p t) wr) (fun _ i _ => 64 - (intOf i).toNat)
      case atStart => exact ⟨16, A', c', by omega, by omega, rfl, rfl, HO.out⟩
      case round =>
        clear HO
        obtain ⟨t, A', c', h16, ht, rfl, rfl, O⟩ := hrel
        obtain ⟨g, cap, hv, _, hlt2⟩ := O.row.form (by omega)
        have hA : A' = some ⟨g, 0, none⟩ := by injection hv
        subst hA
        have HO := Lib.hid O
        clear O hv
        by_cases hlt : t < 64
        · have t1 : decide ((t : Int) < 64) = true := decide_eq_true (by omega)
          have rd : ∀ k, k < t → wr.cell? ⟨g, k, none⟩ = some (.int .u32 (nth (sched p t) k : Nat)) := fun k hk => by
            have h := HO.out.row.cells (g := g) rfl k _ (u32s_get _ k (by rw [sched_len]; exact hk))
            have e : (⟨g, 0, none⟩ : Addr).add k = ⟨g, k, none⟩ := by unfold Addr.add; split <;> simp_all
            rwa [e] at h
          have l15 := rd (t - 15) (by omega)
          have l2 := rd (t - 2) (by omega)
          have l7 := rd (t - 7) (by omega)
          have l16 := rd (t - 16) (by omega)
          have e15 : (t : Int) - 15 = ((t - 15 : Nat) : Int) := by omega
          have e2 : (t : Int) - 2 = ((t - 2 : Nat) : Int) := by omega
          have e7 : (t : Int) - 7 = ((t - 7 : Nat) : Int) := by omega
          have e16 : (t : Int) - 16 = ((t - 16 : Nat) : Int) := by omega
          obtain ⟨x15, hx15⟩ : ∃ x, nth (sched p t) (t - 15) = x := ⟨_, rfl⟩
          obtain ⟨x2, hx2⟩ : ∃ x, nth (sched p t) (t - 2) = x := ⟨_, rfl⟩
          obtain ⟨x7, hx7⟩ : ∃ x, nth (sched p t) (t - 7) = x := ⟨_, rfl⟩
          obtain ⟨x16, hx16⟩ : ∃ x, nth (sched p t) (t - 16) = x := ⟨_, rfl⟩
          rw [hx15] at l15
          rw [hx2] at l2
          rw [hx7] at l7
          rw [hx16] at l16
          have hw : sched p (t + 1) = sched p t ++ [ad (ad (ad (sg1 x2) x7) (sg0 x15)) x16] := by
            rw [sched, if_neg (by omega)]; unfold wnext; rw [hx15, hx2, hx7, hx16]
          obtain ⟨j15, hj15⟩ : ∃ j, t - 15 = j := ⟨_, rfl⟩
          obtain ⟨j2, hj2⟩ : ∃ j, t - 2 = j := ⟨_, rfl⟩
          obtain ⟨j7, hj7⟩ : ∃ j, t - 7 = j := ⟨_, rfl⟩
          obtain ⟨j16, hj16⟩ : ∃ j, t - 16 = j := ⟨_, rfl⟩
          rw [hj15] at l15 e15
          rw [hj2] at l2 e2
          rw [hj7] at l7 e7
          rw [hj16] at l16 e16
          have n15 : j15 < t := by omega
          have n2 : j2 < t := by omega
          have n7 : j7 < t := by omega
          have n16 : j16 < t := by omega
          obtain ⟨X, hX⟩ : ∃ X, ad (ad (ad (sg1 x2) x7) (sg0 x15)) x16 = X := ⟨_, rfl⟩
          have E := next_bits x2 x7 x15 x16
          have E32 : ad (ad (ad (sg1 x2) x7) (sg0 x15)) x16 < 4294967296 := Nat.mod_lt _ (by decide)
          rw [hX] at hw E E32
          have HW := Lib.hid hw
          clear hw hx15 hx2 hx7 hx16 hj15 hj2 hj7 hj16 hX rd
          have HLIT : Hid (Ws ((wr.alloc (.cells #[.int .u32 (X : Int)] 149)).drew) (some ⟨wr.heap.size, 0, none⟩) 1 [X]) := Lib.hid ((Ws.lit1 wr E32).later (Below.refl _ _).drew)
          obtain ⟨A5, c5, w5, r1, O5, _⟩ := run_appW (c := 1) 157 (HO.out.later ((Below.refl _ _).alloc (Nat.le_refl _) (.cells #[.int .u32 (X : Int)] 149)).drew) HLIT.out (by decide) (by omega)
          rw [appW_mark] at r1
          have H5 := Lib.hid O5
          clear O5
          go_wp2_with fail
          refine (right_any _ 7 (by decide) (by decide) _).mono ?_
          rintro e wa ⟨rfl, rfl⟩
          go_wp2_with fail
          refine (right_any _ 18 (by decide) (by decide) _).mono ?_
          rintro e wa ⟨rfl, rfl⟩
          go_wp2_with fail
          refine (right_any _ 17 (by decide) (by decide) _).mono ?_
          rintro e wa ⟨rfl, rfl⟩
          go_wp2_with fail
          refine (right_any _ 19 (by decide) (by decide) _).mono ?_
          rintro e wa ⟨rfl, rfl⟩
          go_wp2_with fail
          go_region
          all_goals go_wp2_with fail
          exact ⟨⟨t + 1, A5, c5, by omega, by omega, rfl, by go_num, by rw [HW.out]; exact H5.out⟩, by simp [intOf]; omega⟩
        · obtain rfl : t = 64 := by omega
          go_wp2_with fail
          go_ret
          obtain ⟨_, d, hd, hle⟩ := HO.out.shape
          exact ⟨_, 64, c', rfl, by injection hd with _ _ h3; omega, HO.out⟩
end Go.Proofs.YtjcphpmlekfhdaaGreatDoor
