/- Whether a history may be, as the program says it. No condition but a bound on the length. -/
import Derived.Test.YtipbpecihbmneaaDoorRRight
import Derived.Test.YtipbpecihbmneaaDoorMapH
namespace Go.Proofs.YtipbpecihbmneaaDoor
open Go.RowKit

/-- The height that the next one may not fall below. -/
def lastH (l : List En) : Nat → Int
  | 0 => 1
  | k + 1 => (nthE l k).h
theorem lastH_b {l : List En} (h : OkEs l) : ∀ k, -9223372036854775808 ≤ lastH l k ∧ lastH l k ≤ 9223372036854775807
  | 0 => (by decide : (-9223372036854775808 : Int) ≤ 1 ∧ (1 : Int) ≤ 9223372036854775807)
  | k + 1 => (nthE_ok h k).1
theorem lastH_low {l : List En} {k : Nat} (hk : k < l.length) (h : (nthE l k).h < lastH l k) : ¬ Right l := by
  cases k with
  | zero => exact not_low hk h
  | succ k => exact not_down hk h
theorem lastH_next {l : List En} {k : Nat} (hk : k < l.length) (r : Right (l.take k)) (h : ¬ (nthE l k).h < lastH l k) (hs : (nthE l k).tx ∉ (l.take k).map En.tx) : Right (l.take (k + 1)) := by
  have h3 : ∀ j, j < k → (nthE l j).tx ≠ (nthE l k).tx := fun j hj e => hs (by rw [← e]; exact List.mem_map.2 ⟨_, mem_take_nth hj (Nat.le_of_lt hk), rfl⟩)
  cases k with
  | zero => exact right_next hk rfl r (by simpa [lastH] using h) (fun q => absurd q (Nat.lt_irrefl _)) h3
  | succ k =>
    have h4 : (nthE l k).h ≤ (nthE l (k + 1)).h := by simpa [lastH] using h
    have h5 := r.one _ (mem_take_nth (l := l) (j := k) (k := k + 1) (by omega) (by omega))
    exact right_next hk rfl r (by omega) (fun _ => h4) h3
theorem seen_twice {l : List En} {k : Nat} (hk : k < l.length) (hs : (nthE l k).tx ∈ (l.take k).map En.tx) : ¬ Right l := by
  obtain ⟨e, he, q⟩ := List.mem_map.1 hs
  obtain ⟨j, hj, e2⟩ := List.getElem_of_mem he
  rw [List.length_take] at hj
  refine not_twice (l := l) (j := j) (k := k) (by omega) hk ?_
  rw [← q, ← e2, nthE_get (by rw [List.length_take]; omega), nthE_take (by omega)]

set_option maxRecDepth 100000 in
set_option maxHeartbeats 4000000 in
theorem mayRight_any {A : Option Addr} {n c : Nat} {l : List En} (w : World) (hn : n ≤ 1000000) (hL : Es w A n l) : Calls Tryd.prog 9 #[.slice A n c] w fun e w' => e = .returned (.bool (rightB l)) ∧ Below w.heap.size w w' := by
  have HL := Lib.hid hL
  have HN := Lib.hid hL.len
  have hmm := @run_makeMap Tryd.prog
  have M0 := Lib.hid (MH.made w)
  have B0 := Lib.hid ((Below.refl w.heap.size w).alloc (Nat.le_refl _) (.map #[] 0))
  clear hL
  go_enter Tryd.func9, Tryd.ntmps9
  go_wp2_with fail
  clear hmm
  go_loopw [3, 10] (fun g i wr => ∃ k : Nat, k ≤ n ∧ i = .int .i64 (k : Nat) ∧ g = .int .i64 (lastH l k) ∧ Right (l.take k) ∧ MH wr w.heap.size k ((l.take k).map En.tx) ∧ Below w.heap.size w wr) (fun _ i _ => n - (intOf i).toNat)
  case atStart => exact ⟨0, Nat.zero_le _, rfl, rfl, Right.nil, M0.out, B0.out⟩
  case round =>
    clear M0 B0
    obtain ⟨k, hk, rfl, rfl, hr, hm, bel⟩ := hrel
    have HM := Lib.hid hm
    have HR := Lib.hid hr
    have HB := Lib.hid bel
    clear hm hr bel
    have bg := lastH_b HL.out.ok k
    obtain ⟨g, hg⟩ : ∃ z : Int, lastH l k = z := ⟨_, rfl⟩
    rw [hg] at bg
    rw [hg]
    have HG := Lib.hid hg
    clear hg
    by_cases hlt : k < n
    · have t1 : decide ((k : Int) < (n : Int)) = true := decide_eq_true (by omega)
      have hlt' : Hid (k < l.length) := Lib.hid (by rw [HN.out]; exact hlt)
      obtain ⟨b, o, rfl, hb, _⟩ := HL.out.cel (by omega)
      have ad := add_at b o
      have R1 := Lib.hid (((HL.out.later HB.out).at_ hlt).2)
      have ok1 := Lib.hid (nthE_ok HL.out.ok k)
      obtain ⟨e, he⟩ : ∃ e, nthE l k = e := ⟨_, rfl⟩
      rw [he] at R1 ok1
      have HE := Lib.hid he
      have lE := Lib.hid (enV_len ok1.out)
      have z0 := zeroEn
      clear he hb
      go_wp2_with (first | (refine wpList_load_part rfl (.tmp 12) rfl rfl rowEn R1.out lE.out ?_) | (refine wpList_store_ro rfl (.tmp 6) (.tmp 13) rfl rfl rfl rowEn (Ro.new wr 29 (enV zeroE)) rfl lE.out (enV_one _) ?_))
      intro w2 R2 g2
      have b2 := Lib.hid (box_store (wa := wr) g2)
      have NB : Hid (wr.heap.size ≠ w.heap.size) := Lib.hid (by have := HM.out.lt; omega)
      have HM2 := Lib.hid (HM.out.later b2.out)
      have HB2 := Lib.hid (HB.out.trans (b2.out.mono HB.out.size))
      have R2h := Lib.hid R2
      have hb2 := Lib.hid R2.lt
      obtain ⟨q, hq⟩ : ∃ q, wr.heap.size = q := ⟨_, rfl⟩
      rw [hq] at R2h NB hb2
      rw [hq]
      clear R2 g2 b2 HM HB R1 z0 hq
      have bh := ok1.out.1
      have c1 : w2.cell? ⟨q, 0, none⟩ = some (.int .i64 e.h) := R2h.out.cell (k := 0) rfl
      have T1 : Hid (w2.rangeAt q 1 (vals e.tx)) := Lib.hid (range_tx (o := 0) (fun j v hj => by rw [Nat.zero_add]; exact R2h.out.cell hj))
      have lt : Hid ((vals e.tx).length = 32) := Lib.hid (by rw [vals_length]; exact ok1.out.2.1)
      have LK := Lib.hid (HM2.out.look ok1.out.2.1 ok1.out.2.2)
      obtain ⟨hh, hhh⟩ : ∃ z : Int, e.h = z := ⟨_, rfl⟩
      rw [hhh] at c1 bh
      have HH := Lib.hid hhh
      clear hhh
      by_cases h1 : hh < g
      · have t2 : decide (hh < g) = true := decide_eq_true h1
        have NR := Lib.hid (rightB_no (lastH_low hlt'.out (by rw [HE.out, HH.out, HG.out]; exact h1)))
        clear LK T1 HM2
        go_wp2_with fail
        go_ret
        exact ⟨by rw [NR.out]; rfl, HB2.out⟩
      · have t2 : decide (hh < g) = false := decide_eq_false h1
        have lk := LK.out
        by_cases hs : e.tx ∈ (l.take k).map En.tx
        · rw [decide_eq_true hs] at lk
          have NR := Lib.hid (rightB_no (seen_twice hlt'.out (by rw [HE.out]; exact hs)))
          clear hs LK HM2
          go_wp2_with (refine BigFrame.wpList_want (by rfl) fun K hK => wp_load_part rfl (.tmp 20) rfl rfl row26 T1.out lt.out (hK _ _ ?_))
          go_ret
          exact ⟨by rw [NR.out]; rfl, HB2.out⟩
        · rw [decide_eq_false hs] at lk
          have NX := Lib.hid (lastH_next hlt'.out HR.out (by rw [HE.out, HH.out, HG.out]; exact h1) (by rw [HE.out]; exact hs))
          have TK := Lib.hid (take_nthE hlt'.out)
          have LN : Hid (lastH l (k + 1) = hh) := Lib.hid (by show (nthE l k).h = hh; rw [HE.out, HH.out])
          clear hs LK
          go_wp2_with (first | (refine BigFrame.wpList_want (by rfl) fun K hK => wp_load_part rfl (.tmp 20) rfl rfl row26 T1.out lt.out (hK _ _ ?_)) | (refine wpList_load_part rfl (.tmp 27) rfl rfl row26 T1.out lt.out ?_) | (refine wpList_putH rfl (.tmp 26) (.tmp 28) rfl rfl rfl HM2.out (by unfold maxLen; omega) ok1.out.2.1 ok1.out.2.2 ?_))
          intro w3 HM3 g3
          have M3 := Lib.hid HM3
          have B3 := Lib.hid (HB2.out.grown g3 HB2.out.size (fun q e => by injection e; omega))
          clear HM3 g3 lk
          go_wp2_with fail
          refine ⟨⟨k + 1, by omega, by go_num, by rw [LN.out], NX.out, ?_, B3.out⟩, by simp [intOf]; omega⟩
          rw [TK.out, List.map_append, List.map_cons, List.map_nil, HE.out, List.map_take]
          exact M3.out
    · have t1 : decide ((k : Int) < (n : Int)) = false := decide_eq_false (by omega)
      obtain rfl : k = n := by omega
      have TA := show l.take k = l from List.take_of_length_le (by rw [HN.out]; exact Nat.le_refl _)
      have RB := Lib.hid (rightB_yes (l := l) (TA ▸ HR.out))
      clear TA
      go_wp2_with fail
      go_ret
      exact ⟨by rw [RB.out]; rfl, HB.out⟩
end Go.Proofs.YtipbpecihbmneaaDoor
