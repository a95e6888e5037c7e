/- Put of the package octet and of the document's answers of layer 4, at every number and every size. No condition but a bound on the length. -/
import Derived.Test.YthglegjnkhifeaaDoorLow
namespace Go.Proofs.YthglegjnkhifeaaDoor
open Go.RowKit

theorem sizeB_nat {size : Int} (h : sizeB size = true) : ∃ k : Nat, size = (k : Int) ∧ 1 ≤ k ∧ k ≤ 8 := by
  rcases sizeB_cases h with rfl | rfl | rfl | rfl
  · exact ⟨1, rfl, by omega, by omega⟩
  · exact ⟨2, rfl, by omega, by omega⟩
  · exact ⟨4, rfl, by omega, by omega⟩
  · exact ⟨8, rfl, by omega, by omega⟩

set_option maxHeartbeats 1000000 in
theorem rput_any {A : Option Addr} {m c : Nat} {L : List Nat} (n : Nat) (hn : n < 18446744073709551616) (size : Int) (w : World) (hm : m ≤ 549755813888) (hL : Bs w A m L) :
    Calls Tryd.prog 18 #[.slice A m c, .int .u64 (n : Nat), .int .i64 size] w (GivesB w (putS L n size)) := by
  have HL := Lib.hid hL
  clear hL
  cases hz : sizeB size with
  | false =>
    have HZ := Lib.hid hz
    clear hz
    go_enter Tryd.func18, Tryd.ntmps18
    go_wp2_with (at_builtin; refine wpList_app rfl _ _ rfl rfl (Own.made (Below.refl _ _) _ _ ?c1 ?c2) rfl (HL.out.later ((Below.refl _ _).alloc (Nat.le_refl _) _)) ?c3 ?_)
    case c1 => decide
    case c2 => rfl
    case c3 => omega
    intro A' c' w' h1 h2 _
    have H1 := Lib.hid h1
    have H2 := Lib.hid h2
    clear h1 h2
    go_wp2_with fail
    refine (rsize_any _ _).mono ?_
    rintro e w2 ⟨rfl, rfl⟩
    rw [HZ.out]
    go_wp2_with fail
    go_ret
    exact ⟨A', m, c', rfl, H1.out, by rw [putS_no HZ.out]; exact H2.out⟩
  | true =>
    obtain ⟨k, rfl, k1, k8⟩ := sizeB_nat hz
    have HZ := Lib.hid hz
    clear hz
    go_enter Tryd.func18, Tryd.ntmps18
    go_wp2_with (at_builtin; refine wpList_app rfl _ _ rfl rfl (Own.made (Below.refl _ _) _ _ ?c1 ?c2) rfl (HL.out.later ((Below.refl _ _).alloc (Nat.le_refl _) _)) ?c3 ?_)
    case c1 => decide
    case c2 => rfl
    case c3 => omega
    intro A' c' w' h1 h2 _
    have H2 := Lib.hid h2
    clear h1 h2
    go_wp2_with fail
    refine (rsize_any _ _).mono ?_
    rintro e w2 ⟨rfl, rfl⟩
    rw [HZ.out]
    go_wp2_with fail
    refine (rlow_any n hn k k8 _).mono ?_
    rintro e w2 ⟨B, l, d, rfl, _, hO⟩
    have hl := hO.len
    rw [low_length] at hl
    subst hl
    have H3 := Lib.hid hO.reads
    have H4 := Lib.hid (H2.out.later hO.bel)
    clear hO
    go_wp2_with (at_builtin; refine wpList_app rfl _ _ rfl rfl H4.out rfl H3.out ?d3 ?_)
    case d3 => omega
    intro A2 c2 w3 h1 h2 _
    have H1 := Lib.hid h1
    have H5 := Lib.hid h2
    clear h1 h2
    go_wp2_with fail
    go_ret
    exact ⟨A2, _, c2, rfl, H1.out, by rw [putS_yes HZ.out, Int.toNat_natCast]; exact H5.out⟩

/-- make([]byte, n, c). -/
theorem run_make_bytes (n c : Nat) (l k : Int) (hl : l = n) (hk : k = c) (hnc : n ≤ c) (hc : c ≤ 1099511627776) (W : World) :
    (Instr.makeSlice 22 (.int .i64 l) (.int .i64 k)).run Tryd.prog W = .ok (.slice (some ⟨W.heap.size, 0, none⟩) n c) (W.alloc (.cells (vals (List.replicate c 0)).toArray 5)) := by
  obtain ⟨i0, hi, hz0, hz1, hz2⟩ := info_parts Tryd.infoByte
  subst hl hk
  rw [run_make (P := Tryd.prog) W 22 5 i0 (.int .u8 0) Tryd.underlying22 hi hz0 .i64 .i64 (n : Int) (c : Int) (by omega) (by omega) (by rw [hz2]; omega) (by omega), hz1]
  have e : (madeCells (Value.int .u8 0).cells c) = (vals (List.replicate c 0)).toArray := by
    apply Array.toList_inj.1
    show (madeCells #[Value.int .u8 0] c).toList = _
    rw [toList_madeCells_one, vals, List.map_replicate]; rfl
  rw [Int.toNat_natCast, Int.toNat_natCast, Nat.mul_one, e]
theorem splice_head (L : List Nat) (n k : Nat) (h : L.length = n) : (splice (vals (List.replicate (n + k) 0)) 0 (vals L)).take n = vals L := by
  subst h
  unfold splice
  simp only [List.take_zero, List.nil_append]
  rw [List.take_left' (by rw [vals_length])]
theorem splice_len (L : List Nat) (n k : Nat) (h : L.length = n) : (splice (vals (List.replicate (n + k) 0)) 0 (vals L)).length = n + k := by
  rw [length_splice _ _ _ (by simp [vals_length]; omega)]
  simp [vals_length]
theorem sizeOfByte : (Tryd.prog.info? 5).map (·.size) = some 1 := by kernel_rfl

set_option maxHeartbeats 1000000 in
theorem put_any {A : Option Addr} {m c : Nat} {L : List Nat} (n : Nat) (hn : n < 18446744073709551616) (size : Int) (w : World) (hm : m ≤ 549755813888) (hL : Bs w A m L) :
    Calls Tryd.prog 16 #[.slice A m c, .int .u64 (n : Nat), .int .i64 size] w (GivesB w (putS L n size)) := by
  have HL := Lib.hid hL
  clear hL
  have hmk := run_make_bytes m (m + 8) m (m + 8) rfl (by omega) (by omega) (by omega)
  obtain ⟨x, hx⟩ : ∃ x : Int, x = (n : Int) := ⟨_, rfl⟩
  have D0 := Lib.hid (downAt_start hn)
  rw [← hx] at D0 ⊢
  clear hx
  have HC : ∀ w', Hid (w'.heap[w.heap.size]? = some (.cells (splice (vals (List.replicate (m + 8) 0)) 0 (vals L)).toArray 5 (0, 0))) → Below w.heap.size w w' → Own w (.slice (some ⟨w.heap.size, 0, none⟩) m (m + 8)) m L w' := fun w' h1 h2 => by
    have h3 := splice_len L m 8 HL.out.len
    have h4 := splice_head L m 8 HL.out.len
    have hl := HL.out.len
    have := Own.full h2 L HL.out.byt (m + 8) (by unfold maxLen; omega) _ (by rw [List.size_toArray]; exact h3) (by omega) (by rw [hl]; exact h4) (Nat.le_refl _) h1.out
    rwa [hl] at this
  have HCC := Lib.hid HC
  clear HC
  cases hz : sizeB size with
  | false =>
    have HZ := Lib.hid hz
    clear hz
    go_enter Tryd.func16, Tryd.ntmps16
    go_wp2_with (refine wpList_copy_splice rfl _ _ _ _ rfl 5 Tryd.underlying22 sizeOfByte _ _ _ _ _ _ rfl rfl w.heap.size 0 (vals (List.replicate (m + 8) 0)) 5 (heap_alloc_new w _) (vals L) ?c1 ?c2 ?c3 (vals_one L) w.heap.size w ((Below.refl _ _).alloc (Nat.le_refl _) _) (Nat.le_refl _) ?_)
    case c1 => rw [vals_length, HL.out.len]; exact (Nat.min_self m).symm
    case c2 =>
      intro hp
      have hl := HL.out.len
      rw [vals_length] at hp
      obtain ⟨b, rfl, hb, _⟩ := HL.out.cel (by omega)
      exact ⟨b, rfl, (HL.out.later ((Below.refl _ _).alloc (Nat.le_refl _) _)).cells⟩
    case c3 => rw [vals_length, vals_length, List.length_replicate, HL.out.len]; omega
    intro w' h1 h2
    have H2 := Lib.hid (HCC.out w' h1 h2)
    clear h1 h2
    go_wp2_with fail
    refine (isSize_any _ _).mono ?_
    rintro e w2 ⟨rfl, rfl⟩
    rw [HZ.out]
    go_wp2_with fail
    go_ret
    exact ⟨_, m, m + 8, rfl, by omega, by rw [putS_no HZ.out]; exact H2.out⟩
  | true =>
    obtain ⟨s, rfl, s1, s8⟩ := sizeB_nat hz
    have HZ := Lib.hid hz
    clear hz
    go_enter Tryd.func16, Tryd.ntmps16
    go_wp2_with (refine wpList_copy_splice rfl _ _ _ _ rfl 5 Tryd.underlying22 sizeOfByte _ _ _ _ _ _ rfl rfl w.heap.size 0 (vals (List.replicate (m + 8) 0)) 5 (heap_alloc_new w _) (vals L) ?c1 ?c2 ?c3 (vals_one L) w.heap.size w ((Below.refl _ _).alloc (Nat.le_refl _) _) (Nat.le_refl _) ?_)
    case c1 => rw [vals_length, HL.out.len]; exact (Nat.min_self m).symm
    case c2 =>
      intro hp
      have hl := HL.out.len
      rw [vals_length] at hp
      obtain ⟨b, rfl, hb, _⟩ := HL.out.cel (by omega)
      exact ⟨b, rfl, (HL.out.later ((Below.refl _ _).alloc (Nat.le_refl _) _)).cells⟩
    case c3 => rw [vals_length, vals_length, List.length_replicate, HL.out.len]; omega
    intro w' h1 h2
    have H2 := Lib.hid (HCC.out w' h1 h2)
    clear h1 h2
    go_wp2_with fail
    refine (isSize_any _ _).mono ?_
    rintro e w2 ⟨rfl, rfl⟩
    rw [HZ.out]
    clear hmk
    go_wp2_with fail
    go_loopw [1, 7, 22] (fun x v i wr => ∃ (k : Nat) (q : Int), k ≤ s ∧ i = .int .i64 (k : Nat) ∧ x = .int .u64 q ∧ DownAt n k q ∧ Own w v (m + k) (L ++ low n k) wr) (fun _ _ i _ => s - (intOf i).toNat)
    case atStart => exact ⟨0, x, by omega, rfl, rfl, D0.out, by rw [low, List.append_nil]; exact H2.out⟩
    case round =>
      obtain ⟨k, q, hk, rfl, rfl, D, O⟩ := hrel
      have HD := Lib.hid D
      have q0 := D.lo
      have q1 := D.hi
      obtain ⟨A1, c1, rfl, _⟩ := O.shape
      have HO := Lib.hid O
      clear D O
      by_cases hlt : k < s
      · obtain ⟨b, hb⟩ : ∃ b : Nat, (b : Int) = q % 256 ∧ b < 256 ∧ b = n / 256 ^ k % 256 := ⟨n / 256 ^ k % 256, HD.out.byte.symm, Nat.mod_lt _ (by decide), rfl⟩
        obtain ⟨hb1, hb2, hb3⟩ := hb
        have HB3 := Lib.hid hb3
        have W1 : IntKind.u8.wrap q = (b : Int) := by rw [IntKind.wrap_u8]; omega
        clear hb1 hb3
        go_wp2_with (at_builtin; refine wpList_app rfl _ _ rfl rfl (HO.out.later ((Below.refl _ _).alloc (Nat.le_refl _) _)) rfl (Bs.lit1 _ hb2) ?d3 ?_)
        case d3 => omega
        intro A' c' w' h1 h2 _
        have H5 := Lib.hid h2
        clear h1 h2
        go_wp2_with fail
        go_roundw
        case rel => exact ⟨k + 1, q / 256, by omega, by go_num, rfl, HD.out.step, by rw [low, ← HB3.out]; exact H5.out⟩
        case measure => simp [intOf]; omega
      · obtain rfl : k = s := by omega
        go_wp2_with fail
        go_ret
        obtain ⟨A2, c2, e, hc⟩ := HO.out.shape
        exact ⟨A2, m + k, c2, by rw [← e]; rfl, hc, by rw [putS_yes HZ.out, ← e]; exact HO.out⟩
end Go.Proofs.YthglegjnkhifeaaDoor
