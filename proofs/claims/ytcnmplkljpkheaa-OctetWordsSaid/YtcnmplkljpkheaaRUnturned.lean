/- Unturned of the document's answers of layer 4. No condition but a bound on the length. -/
import Derived.Test.YtcnmplkljpkheaaTurned
namespace Go.Proofs.Ytcnmplkljpkheaa
open Go.RowKit

theorem unhL_len {M : List Nat} (h : UnhOk M) : (unhL M).length = M.length / 2 := by rw [unhL_ok h, unh_length]

set_option maxRecDepth 100000 in
set_option maxHeartbeats 4000000 in
theorem runturned_any (s : ByteArray) (w : World) (hs : s.size ≤ 549755813888) : Calls Try.prog 25 #[.string s] w (UntEnd (strL s) w) := by
  have hl := strL_length s
  obtain ⟨M, HM⟩ : ∃ M, Hid (strL s = M) := ⟨_, rfl⟩
  rw [HM.out] at hl ⊢
  have HL := Lib.hid hl
  clear hl
  obtain ⟨t1, t2, t3⟩ := two_new w
  have T0 : Hid (TwoAt w (List.replicate 32 0) ((w.alloc (.cells (vals (List.replicate 32 0)).toArray 42)).alloc (.cells (vals (List.replicate 32 0)).toArray 42))) := Lib.hid ⟨t1, t2, t3⟩
  clear t1 t2 t3
  have fin : ∀ (H : List Nat) (E : Int) (w' : World), untH M = H → untE M = E → Below w.heap.size w w' → UntEnd M w (.returned (.tuple #[hashV H, .int .i64 E])) w' := fun H E w' h1 h2 h3 => ⟨by rw [h1, h2], h3⟩
  have FIN := Lib.hid fin
  have UNH := fun w => runhex_any s w hs
  rw [HM.out] at UNH
  have HUNH := Lib.hid UNH
  clear fin UNH
  by_cases ok : UnhOk M
  case neg =>
    have no : ¬ UntOk M := fun h => ok h.1
    have N1 : Hid (untH M = List.replicate 32 0) := Lib.hid (if_neg no)
    have N2 : Hid (untE M = 5) := Lib.hid (if_neg no)
    have UE : Hid (unhE M = 5) := Lib.hid (if_neg ok)
    clear no ok
    go_enter Try.func25, Try.ntmps25
    go_wp2_with fail
    refine (HUNH.out _).mono ?_
    rintro e w2 ⟨A, n, c, rfl, h1, O⟩
    rw [UE.out]
    have T2 := Lib.hid (T0.out.later O.bel)
    clear O h1
    go_wp2_with (first | (refine wpList_load_hash rfl (.tmp 4) rfl rfl T2.out.own (by simp) ?_) | (refine wpList_store_hash rfl (.tmp 2) (.tmp 20) rfl rfl rfl T2.out.res (by simp) (by simp) ?_; intro w' h1 h2; have H1 := Lib.hid h1; have H2 := Lib.hid h2; clear h1 h2))
    exact bodyPost_ret (results_hash2 Try.results25 _ rfl rfl H1.out (by simp)) rfl (FIN.out _ _ _ N1.out N2.out (T2.out.bel.grown H2.out T2.out.bel.size (fun q e => by cases e; exact Nat.le_refl _)))
  case pos =>
    have UE : Hid (unhE M = 0) := Lib.hid (if_pos ok)
    by_cases h64 : M.length = 64
    · have yes : UntOk M := ⟨ok, h64⟩
      have H32 := Lib.hid (untOk_32 yes)
      have N1 : Hid (untH M = (unhL M).reverse) := Lib.hid (if_pos yes)
      have N2 : Hid (untE M = 0) := Lib.hid (if_pos yes)
      obtain ⟨L, hLL⟩ : ∃ L, unhL M = L := ⟨_, rfl⟩
      rw [hLL] at H32 N1
      have HLL := Lib.hid hLL
      have HR := Lib.hid H32.out.rev
      clear hLL yes ok h64
      go_enter Try.func25, Try.ntmps25
      go_wp2_with fail
      refine (HUNH.out _).mono ?_
      rintro e w2 ⟨A, n, c, rfl, h1, O⟩
      rw [UE.out]
      rw [HLL.out] at O
      have T2 := Lib.hid (T0.out.later O.bel)
      have hn := O.len
      rw [H32.out.len] at hn
      subst hn
      have RB := Lib.hid O.reads
      have NEW := Lib.hid O.new
      clear O h1
      have HF : ∀ b ad, A = some ad → b = w.heap.size + 1 → ad.block ≠ b := fun b ad e e2 => by
        have h1 := (NEW.out ad.block (by rw [e]; rfl)).1
        have h2 : w.heap.size + 2 ≤ ad.block := by simpa using h1
        omega
      have HFF := Lib.hid HF
      clear HF
      go_wp2_with fail
      go_loopw [7] (fun i wr => ∃ k : Nat, k ≤ 32 ∧ i = .int .i64 (k : Nat) ∧ TwoAt w (upTo L.reverse k) wr ∧ Bs wr A 32 L) (fun i _ => 32 - (intOf i).toNat)
      case atStart => exact ⟨0, by omega, rfl, T2.out, RB.out⟩
      case round =>
        obtain ⟨k, hk, rfl, T, R⟩ := hrel
        by_cases hlt : k < 32
        · have t1 : decide ((k : Int) < 32) = true := decide_eq_true (by omega)
          obtain ⟨a, rfl, ha, c1, l1⟩ := R.at_ (k := 31 - k) (by omega)
          have f2 := T.own.free k
          have c2 := T.own.cell (k := k) (by rw [upTo_length HR.out.len hk]; omega)
          have e1 : (31 : Int) - (k : Int) = ((31 - k : Nat) : Int) := by omega
          have hx : nth L.reverse k = nth L (31 - k) := by rw [nth_reverse (by rw [H32.out.len]; exact hlt), H32.out.len]
          have hset := upTo_set HR.out.len hlt
          rw [hx] at hset
          obtain ⟨j, hj⟩ : ∃ j, 31 - k = j := ⟨_, rfl⟩
          obtain ⟨x, hxx⟩ : ∃ x, nth L (31 - k) = x := ⟨_, rfl⟩
          rw [hxx] at c1 l1 hset
          rw [hj] at c1 e1
          have j32 : j < 32 := by omega
          have HT : Hid (TwoAt w (upTo L.reverse (k + 1)) (wr.setCell ⟨w.heap.size + 1, k, none⟩ (.int .u8 (x : Int)))) := Lib.hid ⟨T.res.other (by omega) _, by have := T.own.set k x; rwa [hset] at this, T.bel.setCell (by simp) _⟩
          have RB2 : Hid (Bs (wr.setCell ⟨w.heap.size + 1, k, none⟩ (.int .u8 (x : Int))) (some a) 32 L) := Lib.hid ⟨R.len, R.byt, fun _ => by
            obtain ⟨b, e, hb, hc⟩ := R.cel (by omega)
            refine ⟨b, e, by simpa [World.setCell] using hb, fun q hq => ?_⟩
            rw [← hc q hq]
            refine World.cell?_of_block ?_
            rw [add_block]
            exact Below.heap_setCell _ _ _ _ (by
              injection e with e
              subst e
              exact HFF.out _ a rfl rfl)⟩
          clear T R hx hset hj hxx
          go_wp2_with fail
          go_roundw
          case rel => exact ⟨k + 1, by omega, by go_num, HT.out, RB2.out⟩
          case measure => simp [intOf]; omega
        · obtain rfl : k = 32 := by omega
          have o1 := T.own
          rw [upTo_all HR.out.len] at o1
          have O1 := Lib.hid o1
          have T3 := Lib.hid T
          clear o1 T R
          go_wp2_with (first | (refine wpList_load_hash rfl (.tmp 4) rfl rfl O1.out HR.out.len ?_) | (refine wpList_store_hash rfl (.tmp 2) (.tmp 32) rfl rfl rfl T3.out.res (by simp) HR.out.len ?_; intro w' h1 h2; have H1 := Lib.hid h1; have H2 := Lib.hid h2; clear h1 h2))
          exact bodyPost_ret (results_hash2 Try.results25 _ rfl rfl H1.out HR.out.len) rfl (FIN.out _ _ _ N1.out N2.out (T3.out.bel.grown H2.out T3.out.bel.size (fun q e => by cases e; exact Nat.le_refl _)))
    · have no : ¬ UntOk M := fun h => h64 h.2
      have N1 : Hid (untH M = List.replicate 32 0) := Lib.hid (if_neg no)
      have N2 : Hid (untE M = 5) := Lib.hid (if_neg no)
      have hne : (unhL M).length ≠ 32 := by rw [unhL_len ok]; have := ok.1; omega
      have HNE := Lib.hid hne
      clear no ok hne h64
      go_enter Try.func25, Try.ntmps25
      go_wp2_with fail
      refine (HUNH.out _).mono ?_
      rintro e w2 ⟨A, n, c, rfl, h1, O⟩
      rw [UE.out]
      have T2 := Lib.hid (T0.out.later O.bel)
      have hn : n ≠ 32 := by rw [← O.len]; exact HNE.out
      have q1 : ((n : Int) != 32) = true := by rw [bne_iff_ne]; omega
      clear O h1
      go_wp2_with (first | (refine wpList_load_hash rfl (.tmp 4) rfl rfl T2.out.own (by simp) ?_) | (refine wpList_store_hash rfl (.tmp 2) (.tmp 20) rfl rfl rfl T2.out.res (by simp) (by simp) ?_; intro w' h1 h2; have H1 := Lib.hid h1; have H2 := Lib.hid h2; clear h1 h2))
      exact bodyPost_ret (results_hash2 Try.results25 _ rfl rfl H1.out (by simp)) rfl (FIN.out _ _ _ N1.out N2.out (T2.out.bel.grown H2.out T2.out.bel.size (fun q e => by cases e; exact Nat.le_refl _)))
end Go.Proofs.Ytcnmplkljpkheaa
