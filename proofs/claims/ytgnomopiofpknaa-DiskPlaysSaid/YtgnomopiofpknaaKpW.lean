/- DiskKeeps: the law's state, and its calls one by one. No condition. -/
import Derived.Test.YtgnomopiofpknaaKpL
namespace Go.Proofs.Ytgnomopiofpknaa
open Go.RowKit

def KAt (w : World) (d g h : Nat) (V0 V1 : Nat → Value) (a l : Nat → Pcs) (f i n : Nat) (wr : World) : Prop :=
  ∃ S, Dp w d (XK g h) S wr ∧ KpS a l S f i ∧ Kb w g h V0 V1 (sN a f i) (tN a l f i) wr ∧ tot a l f i = n ∧ n ≤ 16384 ∧ ∀ k, k < f → (a k).length + (l k).length ≤ 60
theorem KAt.later {w wr w1 : World} {d g h : Nat} {V0 V1 : Nat → Value} {a l : Nat → Pcs} {f i n : Nat} (k : KAt w d g h V0 V1 a l f i n wr) (b : Below wr.heap.size wr w1) : KAt w d g h V0 V1 a l f i n w1 := by
  obtain ⟨S, D, K, B, r⟩ := k
  exact ⟨S, D.later b, K, B.keep (Kept.of_below b) (D.later b).bel, r⟩
theorem KAt.bel {w wr : World} {d g h : Nat} {V0 V1 : Nat → Value} {a l : Nat → Pcs} {f i n : Nat} (k : KAt w d g h V0 V1 a l f i n wr) : Below w.heap.size w wr := by
  obtain ⟨S, D, _⟩ := k
  exact D.bel
/-- The texts are ahead of the disk by one piece. -/
def KAt' (w : World) (d g h : Nat) (V0 V1 : Nat → Value) (a l : Nat → Pcs) (f i n : Nat) (wr : World) : Prop :=
  ∃ S, Dp w d (XK g h) S wr ∧ KpS a l S f i ∧ Kb w g h V0 V1 (sN a f (i + 1)) (tN a l f (i + 1)) wr ∧ tot a l f i = n ∧ n ≤ 16384 ∧ ∀ k, k < f → (a k).length + (l k).length ≤ 60
/-- So, and the file is settled. -/
def KAt1 (w : World) (d g h : Nat) (V0 V1 : Nat → Value) (a l : Nat → Pcs) (f i n : Nat) (wr : World) : Prop :=
  ∃ S0, Dp w d (XK g h) (S0.put f (S0.at f).settle) wr ∧ KpS a l S0 f i ∧ Kb w g h V0 V1 (sN a f (i + 1)) (tN a l f (i + 1)) wr ∧ tot a l f i = n ∧ n ≤ 16384 ∧ ∀ k, k < f → (a k).length + (l k).length ≤ 60
section
variable {w wr w1 : World} {d g h : Nat} {V0 V1 : Nat → Value} {a l : Nat → Pcs} {f i n : Nat}
theorem KAt'.later (k : KAt' w d g h V0 V1 a l f i n wr) (b : Below wr.heap.size wr w1) : KAt' w d g h V0 V1 a l f i n w1 := by
  obtain ⟨S, D, K, B, r⟩ := k
  exact ⟨S, D.later b, K, B.keep (Kept.of_below b) (D.later b).bel, r⟩
theorem KAt'.bel (k : KAt' w d g h V0 V1 a l f i n wr) : Below w.heap.size w wr := by
  obtain ⟨S, D, _⟩ := k
  exact D.bel
theorem KAt1.bel (k : KAt1 w d g h V0 V1 a l f i n wr) : Below w.heap.size w wr := by
  obtain ⟨S, D, _⟩ := k
  exact D.bel
theorem KAt.sets (k : KAt w d g h V0 V1 a l f i n wr) (hf : f < 2) (hi : i < (a f).length) {s : ByteArray} (hs : s = strB (sN a f i f ++ piece a l f i)) : KAt' w d g h V0 V1 a l f i n (wr.setCell ⟨h, f, none⟩ (.string s)) := by
  obtain ⟨S, D, K, B, r⟩ := k
  subst hs
  have hl := B.lh
  have ho := B.lo
  refine ⟨S, D.boxK (.inr (.inr (.inl rfl))) (by omega) _ _, K, ?_, r⟩
  have e : tN a l f (i + 1) = tN a l f i := funext fun k => tN_same hi k
  rw [e]
  exact B.sets hf fun j => by
    rw [sN_next (l := l) hi]
    split
    · rename_i q; subst q; rfl
    · rfl
theorem KAt.sett (k : KAt w d g h V0 V1 a l f i n wr) (hf : f < 2) (hi : (a f).length ≤ i) (hi2 : i < (a f).length + (l f).length) {s : ByteArray} (hs : s = strB (tN a l f i f ++ piece a l f i)) : KAt' w d g h V0 V1 a l f i n (wr.setCell ⟨h + 1, f, none⟩ (.string s)) := by
  obtain ⟨S, D, K, B, r⟩ := k
  subst hs
  have hl := B.lh
  have ho := B.lo
  refine ⟨S, D.boxK (.inr (.inr (.inr rfl))) (by omega) _ _, K, ?_, r⟩
  have e : sN a f (i + 1) = sN a f i := funext fun k => sN_same hi k
  rw [e]
  exact B.sett hf fun j => by
    rw [tN_next hi hi2]
    split
    · rename_i q; subst q; rfl
    · rfl
variable {B : Option Addr} {nl cb : Nat} {L : List Nat}
theorem KAt'.write (k : KAt' w d g h V0 V1 a l f i n wr) (hf : f < 2) (hne : i ≠ (a f).length) (hi : i < (a f).length + (l f).length) (h60 : (a f).length + (l f).length ≤ 60) (hL : piece a l f i = L) (hn : n + nl ≤ 16384)
    (hB : Bs wr B nl L) (hBb : 0 < nl → ∀ x, B = some x → x.block < w.heap.size) (hc : nl ≤ cb) (hcm : cb ≤ 9223372036854775807) :
    Calls Try.prog 16 #[.pointer (some ⟨d, 0, none⟩), .int .i64 (f : Nat), .slice B nl cb] wr fun e W => e = .returned (.int .i64 0) ∧ KAt w d g h V0 V1 a l f (i + 1) (n + nl) W := by
  obtain ⟨S, D, K, X, ht, hz, h6⟩ := k
  have hlen := hB.len
  have hf' : f = 0 ∨ f = 1 := by omega
  have hw := K.live.write (b := L) hf' (by rw [K.room, ht]; omega)
  refine (write_p D (by have := K.cnt h6 (by omega); omega) (f : Int) hB (fun h0 x e => by have := hBb h0 x e; have := D.lt.1; omega) hc hcm (x := 0) (by rw [hw]) rfl).mono fun e W ⟨e1, D', K'⟩ => ⟨e1, ?_⟩
  rw [hw] at D'
  refine ⟨_, D', ?_, X.keep K' D'.bel, by rw [tot_next hf hi, hL, hlen, ht], by omega, h6⟩
  rcases Nat.lt_or_ge i (a f).length with q | q
  · have e2 : L = (a f)[i] := by rw [← hL]; unfold piece; rw [dif_pos q]
    rw [e2]
    exact K.put hf ((K.now hf).one q)
  · have e2 : L = (l f)[i - (a f).length]'(by omega) := by
      rw [← hL]; unfold piece
      rw [dif_neg (by omega), List.getD_eq_getElem?_getD, List.getElem?_eq_getElem (by omega)]; rfl
    rw [e2]
    exact K.put hf ((K.now hf).more (by omega) hi)
theorem KAt'.sync (k : KAt' w d g h V0 V1 a l f i n wr) (hf : f < 2) (h60 : i ≤ 60) :
    Calls Try.prog 15 #[.pointer (some ⟨d, 0, none⟩), .int .i64 (f : Nat)] wr fun e W => e = .returned (.int .i64 0) ∧ KAt1 w d g h V0 V1 a l f i n W ∧ Kept (XK g h) wr W := by
  obtain ⟨S, D, K, X, r⟩ := k
  have hw := K.live.sync (i := f) (by omega)
  refine (sync_p D (by have := K.cnt r.2.2 h60; omega) (f : Int) (x := 0) (by rw [hw]) rfl).mono fun e W ⟨e1, D', K'⟩ => ⟨e1, ?_, K'⟩
  rw [hw] at D'
  exact ⟨S, D', K, X.keep K' D'.bel, r⟩
theorem settle_at (x : Fl) : x.settle.at = x.at := rfl
theorem put_room (S : Dk) (f : Nat) : (S.put f (S.at f).settle).room = S.room := by
  unfold Dk.put Dk.at Dk.room
  split <;> rfl
theorem put_cnt (S : Dk) (f : Nat) : (S.put f (S.at f).settle).cnt ≤ S.cnt := by
  unfold Dk.put Dk.at Dk.cnt
  split <;> simp [Fl.settle]
theorem KAt1.write (k : KAt1 w d g h V0 V1 a l f (a f).length n wr) (hf : f < 2) (hi : 0 < (l f).length) (h60 : (a f).length + (l f).length ≤ 60) (hL : piece a l f (a f).length = L) (hn : n + nl ≤ 16384)
    (hB : Bs wr B nl L) (hBb : 0 < nl → ∀ x, B = some x → x.block < w.heap.size) (hc : nl ≤ cb) (hcm : cb ≤ 9223372036854775807) :
    Calls Try.prog 16 #[.pointer (some ⟨d, 0, none⟩), .int .i64 (f : Nat), .slice B nl cb] wr fun e W => e = .returned (.int .i64 0) ∧ KAt w d g h V0 V1 a l f ((a f).length + 1) (n + nl) W := by
  obtain ⟨S, D, K, X, ht, hz, h6⟩ := k
  have hlen := hB.len
  have hf' : f = 0 ∨ f = 1 := by omega
  have hw := (K.live.put f (S.at f).settle).write (b := L) hf' (by rw [put_room, K.room, ht]; omega)
  refine (write_p D (by have := K.cnt h6 (by omega); have := put_cnt S f; omega) (f : Int) hB (fun h0 x e => by have := hBb h0 x e; have := D.lt.1; omega) hc hcm (x := 0) (by rw [hw]) rfl).mono fun e W ⟨e1, D', K'⟩ => ⟨e1, ?_⟩
  rw [hw] at D'
  refine ⟨_, D', ?_, X.keep K' D'.bel, by rw [tot_next hf (by omega), hL, hlen, ht], by omega, h6⟩
  have e2 : L = (l f)[0] := by
    rw [← hL]; unfold piece
    rw [dif_neg (by omega), Nat.sub_self, List.getD_eq_getElem?_getD, List.getElem?_eq_getElem (by omega)]; rfl
  rw [e2, at_put S hf hf, if_pos rfl]
  have e3 : ∀ x, (S.put f (S.at f).settle).put f x = S.put f x := fun x => by
    unfold Dk.put
    split <;> rfl
  rw [e3]
  exact K.put hf ((K.now hf).two hi)
/-- Behind the last piece the next file begins. -/
theorem KAt.step (k : KAt w d g h V0 V1 a l f ((a f).length + (l f).length) n wr) (hf : f < 2) (hl : 0 < (l f).length) (h60 : (a f).length + (l f).length ≤ 60) : KAt w d g h V0 V1 a l (f + 1) 0 n wr := by
  obtain ⟨S, D, K, X, ht, hz, h6⟩ := k
  have e1 : sN a (f + 1) 0 = sN a f ((a f).length + (l f).length) := funext fun k => sN_step a (Nat.le_add_right _ _) k
  have e2 : tN a l (f + 1) 0 = tN a l f ((a f).length + (l f).length) := funext fun k => tN_step a l k
  refine ⟨S, D, K.step' hf hl, by rw [e1, e2]; exact X, by rw [tot_step]; exact ht, hz, fun k hk => ?_⟩
  rcases Nat.lt_or_ge k f with q | q
  · exact h6 k q
  · rw [show k = f by omega]; exact h60
theorem KAt.sync0 (k : KAt w d g h V0 V1 a l f ((a f).length + (l f).length) n wr) (hf : f < 2) (hl : (l f).length = 0) (h60 : (a f).length + (l f).length ≤ 60) :
    Calls Try.prog 15 #[.pointer (some ⟨d, 0, none⟩), .int .i64 (f : Nat)] wr fun e W => e = .returned (.int .i64 0) ∧ KAt w d g h V0 V1 a l (f + 1) 0 n W := by
  obtain ⟨S, D, K, X, ht, hz, h6⟩ := k
  have hw := K.live.sync (i := f) (by omega)
  refine (sync_p D (by have := K.cnt h6 h60; omega) (f : Int) (x := 0) (by rw [hw]) rfl).mono fun e W ⟨e1, D', K'⟩ => ⟨e1, ?_⟩
  rw [hw] at D'
  have e1 : sN a (f + 1) 0 = sN a f ((a f).length + (l f).length) := funext fun k => sN_step a (Nat.le_add_right _ _) k
  have e2 : tN a l (f + 1) 0 = tN a l f ((a f).length + (l f).length) := funext fun k => tN_step a l k
  refine ⟨_, D', K.step hf ?_, by rw [e1, e2]; exact X.keep K' D'.bel, by rw [tot_step]; exact ht, hz, fun k hk => ?_⟩
  · have h := K.now hf
    have e3 : l f = [] := List.eq_nil_of_length_eq_zero hl
    rw [e3] at h ⊢
    exact h.fin0
  · rcases Nat.lt_or_ge k f with q | q
    · exact h6 k q
    · rw [show k = f by omega]; exact h60
/-- What On leaves. -/
theorem KpS.on {S : Dk} (K : KpS a l S 2 0) (p : List Int) : ∃ S', ({ S with off := true } : Dk).goOn p = (0, S') ∧ Live S' ∧ S'.cnt = 0 ∧ ∀ k, k < 2 → (S'.at k).at = (a k).flatten ++ (l k).flatten.take (pick p k).toNat := by
  refine ⟨_, rfl, ⟨rfl, rfl⟩, rfl, fun k hk => ?_⟩
  have h := (K.done k hk hk).lost (pick p k)
  rw [← h]
  rcases (by omega : k = 0 ∨ k = 1) with rfl | rfl <;> rfl
theorem strB_take (L : List Nat) (k : Nat) : (strB L).extract 0 k = strB (L.take k) := by
  unfold strB
  apply ByteArray.ext
  simp [List.map_take]
theorem clamp_eq (v : Int) (n : Nat) : (if (n : Int) < (if v < 0 then 0 else v) then (n : Int) else if v < 0 then 0 else v) = ((min v.toNat n : Nat) : Int) := by
  split <;> split <;> omega
theorem take_min (T : List Nat) (k : Nat) : T.take (min k T.length) = T.take k := by
  rcases Nat.le_total k T.length with h | h
  · rw [Nat.min_eq_left h]
  · rw [Nat.min_eq_right h, List.take_length, List.take_of_length_le h]
theorem sN_all {k : Nat} (hk : k < 2) : sN a 2 0 k = (a k).flatten := by unfold sN aN; rw [if_pos hk]
theorem tN_all {k : Nat} (hk : k < 2) : tN a l 2 0 k = (l k).flatten := by unfold tN lN; rw [if_pos hk]
end
end Go.Proofs.Ytgnomopiofpknaa
