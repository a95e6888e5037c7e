/- The reference's text of bytes. No condition but a bound on the length. -/
import Derived.Test.YtipbpecihbmneaaDoorSt
namespace Go.Proofs.YtipbpecihbmneaaDoor
open Go.RowKit

def textA (L : List Nat) (j : Nat) : List Nat := L ++ 128 :: List.replicate j 0
theorem textA_len (L : List Nat) (j : Nat) : (textA L j).length = L.length + 1 + j := by unfold textA; rw [List.length_append, List.length_cons, List.length_replicate]; omega
theorem textA_next (L : List Nat) (j : Nat) : textA L j ++ [0] = textA L (j + 1) := by
  unfold textA
  rw [List.append_assoc, List.cons_append, ← List.replicate_append_replicate (n := j) (m := 1)]
  rfl
def lenOf' : Value → Nat | .slice _ n _ => n | _ => 0
theorem textA_one (L : List Nat) : L ++ [128] = textA L 0 := rfl
theorem text_eq (L : List Nat) : text L = textA L (gapN L.length) ++ bits8 L.length := rfl
theorem bits8_take (n t : Nat) (h : t < 8) : (bits8 n).take (t + 1) = (bits8 n).take t ++ [n * 8 % 18446744073709551616 / 2 ^ (56 - 8 * t) % 256] := by
  rw [List.take_add_one]
  congr 1
  have : (bits8 n)[t]? = some (n * 8 % 18446744073709551616 / 2 ^ (56 - 8 * t) % 256) := by simp [bits8, h]
  rw [this]
  rfl

theorem Bs.litE (w : World) {V : Int} {x : Nat} (hV : V = (x : Int)) (h : x < 256) : Bs (w.alloc (.cells #[.int .u8 V] 5)) (some ⟨w.heap.size, 0, none⟩) 1 [x] := by subst hV; exact Bs.lit1 w h

set_option maxRecDepth 100000 in
set_option maxHeartbeats 4000000 in
theorem text_any {A : Option Addr} {n c : Nat} {L : List Nat} (w : World) (hn : n ≤ 549755813888) (hL : Bs w A n L) : Calls Tryd.prog 20 #[.slice A n c] w (GivesB w (text L)) := by
  have HL := Lib.hid hL
  have HN := Lib.hid hL.len
  clear hL
  go_enter Tryd.func20, Tryd.ntmps20
  go_wp2_with (at_builtin; refine wpList_app rfl _ _ rfl rfl (Own.made (Below.refl _ _) _ _ ?c1 ?c2) rfl (HL.out.later ((Below.refl _ _).alloc (Nat.le_refl _) _)) ?c3 ?_)
  case c1 => decide
  case c2 => rfl
  case c3 => omega
  intro A1 c1 w1 hc1 h1 _
  have O1 := Lib.hid h1
  clear h1
  go_wp2_with (at_builtin; refine wpList_app rfl _ _ rfl rfl (O1.out.later ((Below.refl _ _).alloc (Nat.le_refl _) _)) rfl (Bs.lit1 _ (x := 128) (by decide)) ?d3 ?_)
  case d3 => omega
  intro A2 c2 w2 hc2 h2 _
  have O2 : Hid (Own w (.slice A2 (n + 1) c2) (n + 1) (textA L 0) w2) := Lib.hid h2
  clear h2 O1
  go_wp2_with fail
  go_loopw [3] (fun v wr => ∃ (j : Nat) (A' : Option Addr) (c' : Nat), j ≤ gapN n ∧ v = .slice A' (n + 1 + j) c' ∧ Own w (.slice A' (n + 1 + j) c') (n + 1 + j) (textA L j) wr) (fun v _ => gapN n - (lenOf' v - n - 1))
  case atStart => exact ⟨0, A2, c2, Nat.zero_le _, rfl, O2.out⟩
  case round =>
    clear O2
    obtain ⟨j, A', c', hj, rfl, O⟩ := hrel
    have HO := Lib.hid O
    clear O
    have g64 : gapN n < 64 := Nat.mod_lt _ (by decide)
    have gf := gap_full n
    by_cases hlt : j < gapN n
    · have e1 : ¬ (((n + 1 + j : Nat) : Int) % 64 = 56) := by unfold gapN at *; omega
      have t1 : decide (((n + 1 + j : Nat) : Int) % 64 = 56) = false := decide_eq_false e1
      have t2 : (((n + 1 + j : Nat) : Int) % 64 != 56) = true := by rw [bne_iff_ne]; exact e1
      go_wp2_with (at_builtin; refine wpList_app rfl _ _ rfl rfl (HO.out.later ((Below.refl _ _).alloc (Nat.le_refl _) _)) rfl (Bs.lit1 _ (x := 0) (by decide)) ?d3 ?_)
      case d3 => omega
      intro A3 c3 w3 hc3 h3 _
      have O3 := Lib.hid h3
      clear h3
      go_wp2_with fail
      exact ⟨⟨j + 1, A3, c3, by omega, rfl, by rw [← textA_next]; exact O3.out⟩, by simp [lenOf']; omega⟩
    · obtain rfl : j = gapN n := by omega
      obtain ⟨j, hjj⟩ : ∃ j, gapN n = j := ⟨_, rfl⟩
      rw [hjj] at HO g64 gf ⊢
      have e1 : ((n + 1 + j : Nat) : Int) % 64 = 56 := by omega
      have t1 : decide (((n + 1 + j : Nat) : Int) % 64 = 56) = true := decide_eq_true e1
      have t2 : (((n + 1 + j : Nat) : Int) % 64 != 56) = false := by simp only [bne_eq_false_iff_eq]; exact e1
      have HJ := Lib.hid hjj
      have LJ : n + 1 + j + 8 ≤ 1099511627776 := by omega
      clear hlt gf hjj hj
      have E0 : Hid (Own w (.slice A' (n + 1 + j + 0) c') (n + 1 + j + 0) (textA L j ++ (bits8 n).take 0) wr) := Lib.hid (by rw [List.take_zero, List.append_nil]; exact HO.out)
      clear HO
      go_wp2_with fail
      have t3 : (((n : Int) + 1 + (j : Int)) % 64 != 56) = false := by simp only [bne_eq_false_iff_eq]; omega
      rw [t3]
      clear t1 t2 e1 t3
      go_loopw [3, 5] (fun v i wr => ∃ (t : Nat) (A' : Option Addr) (c' : Nat), t ≤ 8 ∧ v = .slice A' (n + 1 + j + t) c' ∧ i = .int .i64 (7 - (t : Int)) ∧ Own w (.slice A' (n + 1 + j + t) c') (n + 1 + j + t) (textA L j ++ (bits8 n).take t) wr) (fun _ i _ => (intOf i + 1).toNat)
      case atStart => exact ⟨0, A', c', by omega, rfl, rfl, E0.out⟩
      case round =>
        clear E0
        obtain ⟨t, A4, c4, ht, rfl, rfl, O⟩ := hrel
        have HQ := Lib.hid O
        clear O
        by_cases hlt : t < 8
        · have BT := Lib.hid (bits8_take n t hlt)
          have z8 : t = 0 ∨ t = 1 ∨ t = 2 ∨ t = 3 ∨ t = 4 ∨ t = 5 ∨ t = 6 ∨ t = 7 := by omega
          clear hlt ht
          rcases z8 with rfl | rfl | rfl | rfl | rfl | rfl | rfl | rfl
          · go_wp2_with (at_builtin; refine wpList_app rfl _ _ rfl rfl (HQ.out.later ((Below.refl _ _).alloc (Nat.le_refl _) _)) rfl (Bs.litE _ (x := n * 8 % 18446744073709551616 / 72057594037927936 % 256) ?e1 (Nat.mod_lt _ (by decide))) ?e2 ?_)
            case e1 => omega
            case e2 => omega
            intro A3 c3 w3 hc3 h3 _
            have O3 := Lib.hid h3
            clear h3
            go_wp2_with fail
            exact ⟨⟨1, A3, c3, by omega, rfl, rfl, by have h := O3.out; rw [BT.out, ← List.append_assoc]; first | exact h | simpa using h⟩, by simp [intOf]⟩
          · go_wp2_with (at_builtin; refine wpList_app rfl _ _ rfl rfl (HQ.out.later ((Below.refl _ _).alloc (Nat.le_refl _) _)) rfl (Bs.litE _ (x := n * 8 % 18446744073709551616 / 281474976710656 % 256) ?e1 (Nat.mod_lt _ (by decide))) ?e2 ?_)
            case e1 => omega
            case e2 => omega
            intro A3 c3 w3 hc3 h3 _
            have O3 := Lib.hid h3
            clear h3
            go_wp2_with fail
            exact ⟨⟨2, A3, c3, by omega, rfl, rfl, by have h := O3.out; rw [BT.out, ← List.append_assoc]; first | exact h | simpa using h⟩, by simp [intOf]⟩
          · go_wp2_with (at_builtin; refine wpList_app rfl _ _ rfl rfl (HQ.out.later ((Below.refl _ _).alloc (Nat.le_refl _) _)) rfl (Bs.litE _ (x := n * 8 % 18446744073709551616 / 1099511627776 % 256) ?e1 (Nat.mod_lt _ (by decide))) ?e2 ?_)
            case e1 => omega
            case e2 => omega
            intro A3 c3 w3 hc3 h3 _
            have O3 := Lib.hid h3
            clear h3
            go_wp2_with fail
            exact ⟨⟨3, A3, c3, by omega, rfl, rfl, by have h := O3.out; rw [BT.out, ← List.append_assoc]; first | exact h | simpa using h⟩, by simp [intOf]⟩
          · go_wp2_with (at_builtin; refine wpList_app rfl _ _ rfl rfl (HQ.out.later ((Below.refl _ _).alloc (Nat.le_refl _) _)) rfl (Bs.litE _ (x := n * 8 % 18446744073709551616 / 4294967296 % 256) ?e1 (Nat.mod_lt _ (by decide))) ?e2 ?_)
            case e1 => omega
            case e2 => omega
            intro A3 c3 w3 hc3 h3 _
            have O3 := Lib.hid h3
            clear h3
            go_wp2_with fail
            exact ⟨⟨4, A3, c3, by omega, rfl, rfl, by have h := O3.out; rw [BT.out, ← List.append_assoc]; first | exact h | simpa using h⟩, by simp [intOf]⟩
          · go_wp2_with (at_builtin; refine wpList_app rfl _ _ rfl rfl (HQ.out.later ((Below.refl _ _).alloc (Nat.le_refl _) _)) rfl (Bs.litE _ (x := n * 8 % 18446744073709551616 / 16777216 % 256) ?e1 (Nat.mod_lt _ (by decide))) ?e2 ?_)
            case e1 => omega
            case e2 => omega
            intro A3 c3 w3 hc3 h3 _
            have O3 := Lib.hid h3
            clear h3
            go_wp2_with fail
            exact ⟨⟨5, A3, c3, by omega, rfl, rfl, by have h := O3.out; rw [BT.out, ← List.append_assoc]; first | exact h | simpa using h⟩, by simp [intOf]⟩
          · go_wp2_with (at_builtin; refine wpList_app rfl _ _ rfl rfl (HQ.out.later ((Below.refl _ _).alloc (Nat.le_refl _) _)) rfl (Bs.litE _ (x := n * 8 % 18446744073709551616 / 65536 % 256) ?e1 (Nat.mod_lt _ (by decide))) ?e2 ?_)
            case e1 => omega
            case e2 => omega
            intro A3 c3 w3 hc3 h3 _
            have O3 := Lib.hid h3
            clear h3
            go_wp2_with fail
            exact ⟨⟨6, A3, c3, by omega, rfl, rfl, by have h := O3.out; rw [BT.out, ← List.append_assoc]; first | exact h | simpa using h⟩, by simp [intOf]⟩
          · go_wp2_with (at_builtin; refine wpList_app rfl _ _ rfl rfl (HQ.out.later ((Below.refl _ _).alloc (Nat.le_refl _) _)) rfl (Bs.litE _ (x := n * 8 % 18446744073709551616 / 256 % 256) ?e1 (Nat.mod_lt _ (by decide))) ?e2 ?_)
            case e1 => omega
            case e2 => omega
            intro A3 c3 w3 hc3 h3 _
            have O3 := Lib.hid h3
            clear h3
            go_wp2_with fail
            exact ⟨⟨7, A3, c3, by omega, rfl, rfl, by have h := O3.out; rw [BT.out, ← List.append_assoc]; first | exact h | simpa using h⟩, by simp [intOf]⟩
          · go_wp2_with (at_builtin; refine wpList_app rfl _ _ rfl rfl (HQ.out.later ((Below.refl _ _).alloc (Nat.le_refl _) _)) rfl (Bs.litE _ (x := n * 8 % 18446744073709551616 / 1 % 256) ?e1 (Nat.mod_lt _ (by decide))) ?e2 ?_)
            case e1 => omega
            case e2 => omega
            intro A3 c3 w3 hc3 h3 _
            have O3 := Lib.hid h3
            clear h3
            go_wp2_with fail
            exact ⟨⟨8, A3, c3, by omega, rfl, rfl, by have h := O3.out; rw [BT.out, ← List.append_assoc]; first | exact h | simpa using h⟩, by simp [intOf]⟩
        · obtain rfl : t = 8 := by omega
          go_wp2_with fail
          go_ret
          refine ⟨A4, _, c4, rfl, ?_, ?_⟩
          · have h := HQ.out.shape
            obtain ⟨a, b, h1, h2⟩ := h
            injection h1 with _ _ h3
            omega
          · have h := HQ.out
            rw [List.take_of_length_le (by rw [bits8_len]; exact Nat.le_refl _)] at h
            rw [text_eq, HN.out, HJ.out]
            exact h
end Go.Proofs.YtipbpecihbmneaaDoor
