/- Turned and Unturned of the package octet and of the document's answers of layer 4: a hash's bytes as letters, the last one first. No condition but a bound on the length. -/
import Derived.Test.YtcnmplkljpkheaaHash
import Derived.Test.YtcnmplkljpkheaaRUnhex
namespace Go.Proofs.Ytcnmplkljpkheaa
open Go.RowKit

set_option maxRecDepth 100000 in
set_option maxHeartbeats 4000000 in
theorem turned_any {H : List Nat} (hH : H32 H) (w : World) : Calls Try.prog 28 #[hashV H] w fun e w' => e = .returned (.string (strB (hexL H.reverse))) ∧ Below w.heap.size w w' := by
  have HH := Lib.hid hH
  have HR := Lib.hid hH.rev
  clear hH
  have b0 : Below w.heap.size w (w.alloc (.cells (vals H).toArray 42)) := (Below.refl _ _).alloc (Nat.le_refl _) _
  have B0 := Lib.hid b0
  clear b0
  go_enter Try.func28, Try.ntmps28
  unfold hashV
  go_wp2_with fail
  refine (reverse_any w.heap.size _ (Nat.le_refl _) (by omega) HH.out.len HH.out.byt (Row.new w _ H)).mono ?_
  rintro e w2 ⟨rfl, hr, hb⟩
  have hrd := hr.reads HR.out.byt
  rw [HR.out.len] at hrd
  have R2 := Lib.hid hrd
  have B2 := Lib.hid (B0.out.trans hb)
  clear hr hb hrd
  go_wp2_with fail
  refine (hex_any _ (by omega) R2.out).mono ?_
  rintro e w3 ⟨rfl, hb⟩
  have B3 := Lib.hid (B2.out.trans (hb.mono B2.out.size))
  clear hb
  go_wp2_with fail
  go_ret
  exact ⟨rfl, B3.out⟩

set_option maxRecDepth 100000 in
set_option maxHeartbeats 4000000 in
theorem rturned_any {H : List Nat} (hH : H32 H) (w : World) : Calls Try.prog 29 #[hashV H] w fun e w' => e = .returned (.string (strB (hexL H.reverse))) ∧ Below w.heap.size w w' := by
  have HH := Lib.hid hH
  have HR := Lib.hid hH.rev
  clear hH
  have R0 := Lib.hid (Row.new w 42 H)
  have b0 : Below w.heap.size w (w.alloc (.cells (vals H).toArray 42)) := (Below.refl _ _).alloc (Nat.le_refl _) _
  have B0 := Lib.hid b0
  clear b0
  go_enter Try.func29, Try.ntmps29
  unfold hashV
  go_wp2_with (refine wpList_load_hash rfl (.tmp 1) rfl rfl R0.out HH.out.len ?_)
  refine (back_any HH.out _).mono ?_
  rintro e w2 ⟨rfl, hb⟩
  have B2 := Lib.hid (B0.out.trans (hb.mono B0.out.size))
  have b3 : Below w.heap.size w (w2.alloc (.cells (vals (List.replicate 32 0)).toArray 42)) := B2.out.alloc B2.out.size _
  have B3 := Lib.hid b3
  have R3 := Lib.hid (Row.new w2 42 (List.replicate 32 0))
  clear hb b3
  go_wp2_with (refine wpList_store_hash rfl (.tmp 3) (.tmp 5) rfl rfl rfl R3.out (by simp) HR.out.len ?_; intro w' h1 h2; have H1 := Lib.hid h1; have H2 := Lib.hid h2; clear h1 h2)
  have B4 := Lib.hid (B3.out.grown H2.out B3.out.size (fun q e => by cases e; exact B2.out.size))
  have hrd := H1.out.reads HR.out.byt
  rw [HR.out.len] at hrd
  have R4 := Lib.hid hrd
  clear hrd
  refine (rhex_any _ (by omega) R4.out).mono ?_
  rintro e w3 ⟨rfl, hb⟩
  have B5 := Lib.hid (B4.out.trans (hb.mono B4.out.size))
  clear hb
  go_wp2_with fail
  go_ret
  exact ⟨rfl, B5.out⟩

/-- What Unturned answers. -/
def UntOk (M : List Nat) : Prop := UnhOk M ∧ M.length = 64
instance (M : List Nat) : Decidable (UntOk M) := by unfold UntOk; infer_instance
def untH (M : List Nat) : List Nat := if UntOk M then (unhL M).reverse else List.replicate 32 0
def untE (M : List Nat) : Int := if UntOk M then 0 else 5
def UntEnd (M : List Nat) (w : World) (e : Ending) (w' : World) : Prop := e = .returned (.tuple #[hashV (untH M), .int .i64 (untE M)]) ∧ Below w.heap.size w w'
theorem zero32 : H32 (List.replicate 32 0) := ⟨by simp, fun x hx => by rw [List.eq_of_mem_replicate hx]; decide⟩
theorem unh_byt {M : List Nat} (h : ∀ j, hokB (nth M j) = true ∨ M.length ≤ j) : ∀ k, 2 * k ≤ M.length → AllB (unh M k)
  | 0, _ => allB_nil
  | k + 1, hk => by
    rw [unh]
    refine (unh_byt h k (by omega)).app (allB_one ?_)
    have h1 := hv_lt ((h (2 * k)).resolve_right (by omega))
    have h2 := hv_lt ((h (2 * k + 1)).resolve_right (by omega))
    omega
theorem unhL_ok {M : List Nat} (h : UnhOk M) : unhL M = unh M (M.length / 2) := if_pos h
theorem unhL_byt {M : List Nat} (h : UnhOk M) : AllB (unhL M) := by
  rw [unhL_ok h]
  exact unh_byt (fun j => by
    rcases Nat.lt_or_ge j M.length with h1 | h1
    · exact .inl (h.2 j h1)
    · exact .inr h1) _ (by omega)
theorem untOk_32 {M : List Nat} (h : UntOk M) : H32 (unhL M) := ⟨by rw [unhL_ok h.1, unh_length, h.2], unhL_byt h.1⟩
theorem untH_32 (M : List Nat) : H32 (untH M) := by
  unfold untH
  split
  · rename_i h; exact (untOk_32 h).rev
  · exact zero32
theorem results_hash2 {fn : Func} {p q : Tmp} (h : fn.results = #[.cell p 42, .tmp q]) (tmps : Array Value) {w : World} {b : Nat} {H : List Nat} {v : Value} (hp : tmps.getD p undef = .pointer (some ⟨b, 0, none⟩)) (hq : tmps.getD q undef = v) (hr : Row w b 42 H) (hl : H.length = 32) :
    (results fn tmps).run Try.prog w = .ok (.tuple #[hashV H, v]) w := by
  have hp' : tmps[p]?.getD undef = .pointer (some ⟨b, 0, none⟩) := by simpa using hp
  have hq' : tmps[q]?.getD undef = v := by simpa using hq
  have := run_loadVar_row w b 42 42 (vals H).toArray (0, 0) _ hr Try.underlying42 rfl (info_row hl)
  simp [results, h, hp', hq', asAddr, this, hashV]
theorem two_new (w : World) : Row ((w.alloc (.cells (vals (List.replicate 32 0)).toArray 42)).alloc (.cells (vals (List.replicate 32 0)).toArray 42)) w.heap.size 42 (List.replicate 32 0) ∧
    Row ((w.alloc (.cells (vals (List.replicate 32 0)).toArray 42)).alloc (.cells (vals (List.replicate 32 0)).toArray 42)) (w.heap.size + 1) 42 (List.replicate 32 0) ∧
    Below w.heap.size w ((w.alloc (.cells (vals (List.replicate 32 0)).toArray 42)).alloc (.cells (vals (List.replicate 32 0)).toArray 42)) := by
  refine ⟨(Row.new w _ _).later ((Below.refl _ _).alloc (Nat.le_refl _) _), ?_, ((Below.refl _ _).alloc (Nat.le_refl _) _).alloc (by simp) _⟩
  have := Row.new (w.alloc (.cells (vals (List.replicate 32 0)).toArray 42)) 42 (List.replicate 32 0)
  rwa [World.size_alloc] at this
theorem splice_all {L : List Nat} {n : Nat} (h : L.length = n) : splice (vals (List.replicate n 0)) 0 (vals L) = vals L := by
  unfold splice
  rw [List.take_zero, List.nil_append, List.drop_of_length_le (by simp [vals_length, h]), List.append_nil]
/-- The two boxes of Unturned. -/
structure TwoAt (w : World) (H : List Nat) (wr : World) : Prop where
  res : Row wr w.heap.size 42 (List.replicate 32 0)
  own : Row wr (w.heap.size + 1) 42 H
  bel : Below w.heap.size w wr
theorem TwoAt.later {w wr w1 : World} {H : List Nat} (h : TwoAt w H wr) (g : Below wr.heap.size wr w1) : TwoAt w H w1 := ⟨h.res.later g, h.own.later g, h.bel.trans (g.mono h.bel.size)⟩
theorem TwoAt.lt {w wr : World} {H : List Nat} (h : TwoAt w H wr) : w.heap.size + 1 < wr.heap.size := h.own.lt

set_option maxRecDepth 100000 in
set_option maxHeartbeats 4000000 in
theorem unturned_any (s : ByteArray) (w : World) (hs : s.size ≤ 549755813888) : Calls Try.prog 24 #[.string s] w (UntEnd (strL s) w) := by
  have hl := strL_length s
  obtain ⟨M, HM⟩ : ∃ M, Hid (strL s = M) := ⟨_, rfl⟩
  rw [HM.out] at hl ⊢
  have HL := Lib.hid hl
  clear hl
  obtain ⟨t1, t2, t3⟩ := two_new w
  have T0 : Hid (TwoAt w (List.replicate 32 0) ((w.alloc (.cells (vals (List.replicate 32 0)).toArray 42)).alloc (.cells (vals (List.replicate 32 0)).toArray 42))) := Lib.hid ⟨t1, t2, t3⟩
  clear t1 t2 t3
  have fin : ∀ (H : List Nat) (E : Int) (w' : World), untH M = H → untE M = E → Below w.heap.size w w' → UntEnd M w (.returned (.tuple #[hashV H, .int .i64 E])) w' := fun H E w' h1 h2 h3 => ⟨by rw [h1, h2], h3⟩
  have FIN := Lib.hid fin
  clear fin
  by_cases h64 : s.size = 64
  case neg =>
    have no : ¬ UntOk M := fun h => h64 (by rw [← HL.out]; exact h.2)
    have N1 : Hid (untH M = List.replicate 32 0) := Lib.hid (if_neg no)
    have N2 : Hid (untE M = 5) := Lib.hid (if_neg no)
    have q1 : ((s.size : Int) != 64) = true := by rw [bne_iff_ne]; omega
    clear no h64
    go_enter Try.func24, Try.ntmps24
    go_wp2_with (first | (refine wpList_load_hash rfl (.tmp 4) rfl rfl T0.out.own (by simp) ?_) | (refine wpList_store_hash rfl (.tmp 2) (.tmp 10) rfl rfl rfl T0.out.res (by simp) (by simp) ?_; intro w' h1 h2; have H1 := Lib.hid h1; have H2 := Lib.hid h2; clear h1 h2))
    exact bodyPost_ret (results_hash2 Try.results24 _ rfl rfl H1.out (by simp)) rfl (FIN.out _ _ _ N1.out N2.out (T0.out.bel.grown H2.out T0.out.bel.size (fun q e => by cases e; exact Nat.le_refl _)))
  case pos =>
    have q1 : ((s.size : Int) != 64) = false := by rw [bne_eq_false_iff_eq]; omega
    have UNH := fun w => unhex_any s w hs
    rw [HM.out] at UNH
    have HUNH := Lib.hid UNH
    have HMS : Hid (M.length = 64) := Lib.hid (by rw [HL.out]; exact h64)
    clear h64 UNH
    by_cases ok : UnhOk M
    · have yes : UntOk M := ⟨ok, HMS.out⟩
      have H32 := Lib.hid (untOk_32 yes)
      have N1 : Hid (untH M = (unhL M).reverse) := Lib.hid (if_pos yes)
      have N2 : Hid (untE M = 0) := Lib.hid (if_pos yes)
      have UE : Hid (unhE M = 0) := Lib.hid (if_pos ok)
      clear yes ok
      obtain ⟨L, hLL⟩ : ∃ L, unhL M = L := ⟨_, rfl⟩
      rw [hLL] at H32 N1
      have HLL := Lib.hid hLL
      clear hLL
      go_enter Try.func24, Try.ntmps24
      go_wp2_with fail
      refine (HUNH.out _).mono ?_
      rintro e w2 ⟨A, n, c, rfl, h1, O⟩
      rw [UE.out]
      rw [HLL.out] at O
      have T2 := Lib.hid (T0.out.later O.bel)
      have hn := O.len
      rw [H32.out.len] at hn
      subst hn
      have RB := Lib.hid O.reads
      clear O h1
      go_wp2_with (refine wpList_copy_splice rfl (.tmp 20) (.tmp 21) 22 22 rfl 5 Try.underlying22 sizeOfByte (some ⟨w.heap.size + 1, 0, none⟩) A 32 32 32 c rfl rfl (w.heap.size + 1) 0 (vals (List.replicate 32 0)) 42 T2.out.own (vals L) (by rw [vals_length, H32.out.len]; rfl) ?c1 (by rw [vals_length, vals_length, H32.out.len, List.length_replicate]; decide) (vals_one L) (w.heap.size + 1) w2 (Below.refl _ _) (Nat.le_refl _) ?_)
      case c1 =>
        intro _
        obtain ⟨a, rfl, _, _⟩ := RB.out.cel (by omega)
        first | exact ⟨rfl, a, rfl, RB.out.cells⟩ | exact ⟨a, rfl, RB.out.cells⟩
      intro w3 h1 h2
      have R3 : Hid (Row w3 (w.heap.size + 1) 42 L) := Lib.hid (h1.out.trans (congrArg (fun l : List Value => some (Obj.cells l.toArray 42 (0, 0))) (splice_all (n := 32) H32.out.len)))
      have T3 := Lib.hid h2
      clear h1 h2
      go_wp2_with fail
      refine (reverse_any (w.heap.size + 1) _ (Nat.le_refl _) (by omega) H32.out.len H32.out.byt R3.out).mono ?_
      rintro e w4 ⟨rfl, hr, hb⟩
      have R4 := Lib.hid hr
      have T4 := Lib.hid (T3.out.trans hb)
      have res := T2.out.res
      have hres : Row w4 w.heap.size 42 (List.replicate 32 0) := by
        unfold Row at *
        rw [T4.out.block _ (by omega)]; exact res
      have HRES := Lib.hid hres
      have hbel : Below w.heap.size w w4 := T2.out.bel.trans (T4.out.mono (by omega))
      have HBEL := Lib.hid hbel
      have l4 : L.reverse.length = 32 := by rw [List.length_reverse]; exact H32.out.len
      have HL4 := Lib.hid l4
      clear hr hb res hres hbel l4
      go_wp2_with (first | (refine wpList_load_hash rfl (.tmp 4) rfl rfl R4.out HL4.out ?_) | (refine wpList_store_hash rfl (.tmp 2) (.tmp 25) rfl rfl rfl HRES.out (by simp) HL4.out ?_; intro w' h1 h2; have H1 := Lib.hid h1; have H2 := Lib.hid h2; clear h1 h2))
      exact bodyPost_ret (results_hash2 Try.results24 _ rfl rfl H1.out HL4.out) rfl (FIN.out _ _ _ N1.out N2.out (HBEL.out.grown H2.out HBEL.out.size (fun q e => by cases e; exact Nat.le_refl _)))
    · have no : ¬ UntOk M := fun h => ok h.1
      have N1 : Hid (untH M = List.replicate 32 0) := Lib.hid (if_neg no)
      have N2 : Hid (untE M = 5) := Lib.hid (if_neg no)
      have UE : Hid (unhE M = 5) := Lib.hid (if_neg ok)
      clear no ok
      go_enter Try.func24, Try.ntmps24
      go_wp2_with fail
      refine (HUNH.out _).mono ?_
      rintro e w2 ⟨A, n, c, rfl, h1, O⟩
      rw [UE.out]
      have T2 := Lib.hid (T0.out.later O.bel)
      clear O h1
      go_wp2_with (first | (refine wpList_load_hash rfl (.tmp 4) rfl rfl T2.out.own (by simp) ?_) | (refine wpList_store_hash rfl (.tmp 2) (.tmp 18) rfl rfl rfl T2.out.res (by simp) (by simp) ?_; intro w' h1 h2; have H1 := Lib.hid h1; have H2 := Lib.hid h2; clear h1 h2))
      exact bodyPost_ret (results_hash2 Try.results24 _ rfl rfl H1.out (by simp)) rfl (FIN.out _ _ _ N1.out N2.out (T2.out.bel.grown H2.out T2.out.bel.size (fun q e => by cases e; exact Nat.le_refl _)))
end Go.Proofs.Ytcnmplkljpkheaa
