/- frame.parts: what stands between ends, told one by one: at any slice of bytes that reads. No condition but a bound on the length. -/
import Derived.Shelf.Abstract
import Derived.Shelf.RegionOpen
import Derived.OwnWalkIn
import Derived.TacticsInMore
import Derived.LoopNIn
import Derived.LoopIn
import Derived.Outline
import Derived.Test.YtfmfooocfcdalaaIdx
import Derived.Test.YtfmfooocfcdalaaTurns
namespace Go.Proofs.Ytfmfooocfcdalaa
open Go.RowKit Go.Shelf
attribute [local go_sem] Oper.semAt_some

/-- A part: where it begins, how long it is, whether an end is behind it. -/
abbrev Piece := Nat × Nat × Bool
/-- The parts from a place on. -/
def partsAt : Nat → List Nat → Nat → List Piece
  | 0, _, _ => []
  | f + 1, L, p => match posN (L.drop p) with
    | none => [(p, L.length - p, false)]
    | some k => (p, k, true) :: partsAt f L (p + k + 1)
def partsOf (L : List Nat) : List Piece := partsAt (L.length + 1) L 0
theorem partsAt_none {L : List Nat} {p f : Nat} (h : posN (L.drop p) = none) : partsAt (f + 1) L p = [(p, L.length - p, false)] := by simp [partsAt, h]
theorem partsAt_some {L : List Nat} {p k f : Nat} (h : posN (L.drop p) = some k) : partsAt (f + 1) L p = (p, k, true) :: partsAt f L (p + k + 1) := by simp [partsAt, h]

/-- A part that is yielded, with the address that it is yielded with. -/
abbrev Told := Option Addr × Piece
def toldV (c : Nat) (x : Told) : Array Value := #[.slice x.1 x.2.2.1 (c - x.2.1), .bool x.2.2.2]
/-- Its address is the part's own, if it is not empty. -/
def Told.ok (A : Option Addr) (x : Told) : Prop := 0 < x.2.2.1 → x.1 = A.map fun a => a.add x.2.1
def Tells (A : Option Addr) (L : List Nat) (pre : List Told) : Prop := (∃ t, pre.map Prod.snd ++ t = partsOf L) ∧ ∀ x ∈ pre, x.ok A
def TellsAll (A : Option Addr) (L : List Nat) (pre : List Told) : Prop := pre.map Prod.snd = partsOf L ∧ ∀ x ∈ pre, x.ok A

/-- What a round keeps: the blocks of a set, as they are. -/
def Kq (Q : Nat → Prop) (W W' : World) : Prop := ∀ k, Q k → W'.heap[k]? = W.heap[k]?
theorem kq_refl (Q : Nat → Prop) (W : World) : Kq Q W W := fun _ _ => rfl
theorem kq_t {Q : Nat → Prop} {A B C : World} (h : Kq Q A B) (k : Kq Q B C) : Kq Q A C := fun i hi => (k i hi).trans (h i hi)
theorem kq_b {Q : Nat → Prop} {w : World} (hQ : ∀ k, Q k → k < w.heap.size) (W : World) (l : Nat) (o o' : Obj) (hl : w.heap.size ≤ l) (_h : W.heap[l]? = some o) (_h1 : o.isCells = false) (_h2 : o.isWalk = false) : Kq Q W (W.putObj l o') :=
  fun k hk => World.putObj_heap_other (by have := hQ k hk; omega)
theorem Bs.kept {W W' : World} {A : Option Addr} {n : Nat} {L : List Nat} (h : Bs W A n L) (hk : 0 < n → ∀ a, A = some a → W'.heap[a.block]? = W.heap[a.block]?) : Bs W' A n L :=
  ⟨h.len, h.byt, fun hn => by
    obtain ⟨a, e, hb, hc⟩ := h.cel hn
    have hs := hk hn a e
    refine ⟨a, e, ?_, fun k hk' => ?_⟩
    · have : W'.heap[a.block]? = some W.heap[a.block] := by rw [hs, Array.getElem?_eq_getElem hb]
      exact (Array.getElem?_eq_some_iff.1 this).1
    · rw [← hc k hk']
      exact World.cell?_of_block (by rw [add_block]; exact hs)⟩
/-- The iterator turns its box. -/
def Tb (Bx : Nat) (W W' : World) : Prop := ∃ v, W' = W.setCell ⟨Bx, 0, none⟩ v

theorem tb_keeps {Bx : Nat} (A B : World) (h : Tb Bx A B) : KeepsOthers A B := by
  obtain ⟨v, rfl⟩ := h
  exact KeepsOthers.setCell _ _ _

/-- Between two rounds of the iterator. -/
structure PAt (A : Option Addr) (len cap Bx : Nat) (L : List Nat) (J : List Told → World → Prop) (wr : World) (pre : List Told) (p f : Nat) (A' : Option Addr) : Prop where
  all : pre.map Prod.snd ++ partsAt f L p = partsOf L
  ok : ∀ x ∈ pre, x.ok A
  le : p ≤ len
  fu : len + 1 ≤ f + p
  adr : p < len → A' = A.map fun a => a.add p
  blk : ∀ a, A' = some a → ∃ b, A = some b ∧ a.block = b.block
  inv : J pre wr
  box : Boxed wr Bx 27 (.slice A' (len - p) (cap - p))
  rd : Bs wr A len L
theorem PAt.reads {A : Option Addr} {len cap Bx : Nat} {L : List Nat} {J : List Told → World → Prop} {wr : World} {pre : List Told} {p f : Nat} {A' : Option Addr} (h : PAt A len cap Bx L J wr pre p f A') (hc : len ≤ cap) : Bs wr A' (len - p) (L.drop p) := by
  have hl := h.rd.len
  by_cases e : p = len
  · subst e
    rw [Nat.sub_self, List.drop_of_length_le (by omega)]
    exact Bs.nil _ _
  · have hp := h.le
    have := h.rd.cut (k := p) (m := len - p) (by omega) hc
    rw [if_neg (by omega), List.take_of_length_le (by rw [List.length_drop]; omega)] at this
    rw [h.adr (by omega)]
    exact this

theorem PAt.next {A : Option Addr} {len cap Bx : Nat} {L : List Nat} {J : List Told → World → Prop} {wr W3 : World} {pre : List Told} {p f k m q z : Nat} {A' A'' : Option Addr} (h : PAt A len cap Bx L J wr pre p (f + 1) A') (hcap : len ≤ cap)
    (hall : pre.map Prod.snd ++ (p, k, true) :: partsAt f L (p + k + 1) = partsOf L) (ht : Tells A L (pre ++ [(A', (p, k, true))])) (hk : k < m) (hm : len - p = m) (hq : cap - p = q)
    (hA : (cap ≤ p + k + 1 ∧ A'' = A' ∧ z = q - (k + 1)) ∨ (p + k + 1 < cap ∧ A'' = Option.map (fun x => { block := x.block, off := x.off + (k + 1) }) A' ∧ z = q - (k + 1))) (bx : Boxed W3 Bx 27 (.slice A' m q)) (rd : Bs W3 A len L) (hne : 0 < len → ∀ a, A = some a → a.block ≠ Bx)
    (hJ : J (pre ++ [(A', (p, k, true))]) (W3.setCell ⟨Bx, 0, none⟩ (.slice A'' (m - (k + 1)) z))) :
    PAt A len cap Bx L J (W3.setCell ⟨Bx, 0, none⟩ (.slice A'' (m - (k + 1)) z)) (pre ++ [(A', (p, k, true))]) (p + k + 1) f A'' := by
  have hp := h.le
  have hl := rd.len
  have hf := h.fu
  have hz : z = cap - (p + k + 1) := by rcases hA with ⟨_, _, e⟩ | ⟨_, _, e⟩ <;> omega
  refine ⟨by rw [List.map_append, List.append_assoc]; exact hall, ht.2, by omega, by omega, fun hlt => ?_, fun a e => ?_, hJ, ?_, rd.kept fun hn a e => Below.heap_setCell _ _ _ _ (hne hn a e)⟩
  · rcases hA with ⟨hc, _⟩ | ⟨_, e, _⟩
    · omega
    · rw [e, h.adr (by omega)]
      cases A with
      | none => rfl
      | some a => simp only [Option.map_some]; rw [Nat.add_assoc p k 1, ← add_add']; congr 1
  · rcases hA with ⟨_, e2, _⟩ | ⟨_, e2, _⟩
    · exact h.blk a (by rw [← e2]; exact e)
    · rw [e2] at e
      cases A' with
      | none => cases e
      | some a' =>
        injection e with e
        subst e
        exact h.blk a' rfl
  · have := bx.set (.slice A'' (m - (k + 1)) z)
    rw [show len - (p + k + 1) = m - (k + 1) by omega, ← hz]
    exact this

set_option maxRecDepth 100000 in
set_option maxHeartbeats 2000000 in
/-- The walk over a slice of bytes, end by end. -/
theorem parts1_in (l Bx : Nat) (A : Option Addr) (len cap : Nat) (L : List Nat) (hcap : len ≤ cap) (hreach : cap ≤ 9223372036854775807) (J Jx : List Told → World → Prop) (Q : Nat → Prop) (hQB : Q Bx) (hQA : 0 < len → ∀ a, A = some a → Q a.block ∧ a.block ≠ Bx)
    (hT : ∀ s X Y, J s X → Tb Bx X Y → J s Y)
    (hY : ∀ pre x W, J pre W → Tells A L (pre ++ [x]) → YieldAt Fence.wide 1 Try.prog l (toldV cap x) W fun e W' =>
      (e = .returned (.bool true) ∧ J (pre ++ [x]) W' ∧ Kq Q W W') ∨ (e = .returned (.bool false) ∧ Jx (pre ++ [x]) W'))
    (W : World) (hBx : Boxed W Bx 27 (.slice A len cap)) (hL : Bs W A len L) (h0 : J [] W) :
    CallsIn Fence.wide 2 Try.prog 20 #[.func (.yield l) #[] #[], .pointer (some ⟨Bx, 0, none⟩)] W fun e W' => (∃ v, e = .returned v) ∧
      ((∃ ys, TellsAll A L ys ∧ J ys W') ∨ (∃ pre, Tells A L pre ∧ Jx pre W')) := by
  refine callsIn_of_wp Try.func20 rfl trivial ?_ rfl
  simp only [Try.ntmps20, List.size_toArray, List.length_cons, List.length_nil, Nat.reduceAdd, Nat.reduceSub, Array.replicate_succ, Array.replicate_zero, List.push_toArray, List.append_toArray, List.nil_append, List.cons_append]
  have HL := Lib.hid hL
  clear hL
  gi_wp2
  gi_loopw [3] (fun _ wr => ∃ pre p f A', PAt A len cap Bx L J wr pre p f A') (fun _ wr => match wr.cell? ⟨Bx, 0, none⟩ with | some (.slice _ m _) => m | _ => 0)
  case atStart => exact ⟨[], 0, L.length + 1, A, ⟨rfl, fun x hx => absurd hx List.not_mem_nil, Nat.zero_le _, by rw [HL.out.len]; omega, fun _ => by cases A <;> simp [Addr.add], fun a e => ⟨a, e, rfl⟩, h0, hBx, HL.out⟩⟩
  case round =>
    obtain ⟨pre, p, f, A', H⟩ := hrel
    have hbx := H.box.cell
    have hbf := H.box.frozen
    have hp := H.le
    have hfu := H.fu
    obtain ⟨f, rfl⟩ : ∃ g, f = g + 1 := ⟨f - 1, by omega⟩
    have R := Lib.hid (H.reads hcap)
    have HH := Lib.hid H
    have IX := Lib.hid (fun w (h : Bs w A' (len - p) (L.drop p)) => index_any (c := cap - p) h)
    have fin : ∀ W3, Kq Q wr W3 → Boxed W3 Bx 27 (.slice A' (len - p) (cap - p)) ∧ Bs W3 A len L := fun W3 hk =>
      ⟨(hk Bx hQB).trans H.box, H.rd.kept fun hn a e => hk a.block (hQA hn a e).1⟩
    have FIN := Lib.hid fin
    clear H fin
    cases hpos : posN (L.drop p) with
    | none =>
      have hi : posI (L.drop p) = -1 := by unfold posI; rw [hpos]
      have hT1 : Tells A L (pre ++ [(A', (p, len - p, false))]) := by
        refine ⟨⟨[], ?_⟩, fun x hx => ?_⟩
        · rw [← HH.out.all, partsAt_none hpos, HL.out.len, List.append_nil, List.map_append]; rfl
        · rcases List.mem_append.1 hx with hx | hx
          · exact HH.out.ok x hx
          · obtain rfl := List.mem_singleton.1 hx
            exact fun h => HH.out.adr (by simp at h; omega)
      obtain ⟨fn, tmps, assign, body, hy, hR⟩ := hY _ (A', (p, len - p, false)) wr HH.out.inv hT1
      dsimp only [toldV] at hy
      have HT1 := Lib.hid hT1
      have HI := Lib.hid hi
      clear hT1 hpos hi hp hfu
      gi_wp2_with (refine ⟨trivial, ?_⟩; gi_at_call 21; refine (callsIn_wide.2 (IX.out _ R.out)).mono ?_; rintro e w2 ⟨rfl, rfl⟩; rw [HI.out])
      refine hR.mono ?_
      rintro e W3 (⟨rfl, hJ3, hk3⟩ | ⟨rfl, hJx3⟩)
      · gi_wp2
        refine bodyPost_ret (results_none rfl _ _ _) rfl ?_
        obtain ⟨⟨t, h1⟩, h2⟩ := HT1.out
        have HA := HH.out.all
        have h3 : L.length - p = len - p := by rw [HL.out.len]
        refine ⟨⟨_, rfl⟩, .inl ⟨_, ⟨?_, h2⟩, hJ3⟩⟩
        have h4 : t = [] := by
          have e1 : partsAt (f + 1) L p = [(p, len - p, false)] ++ t := by
            rw [← HA, List.map_append, List.append_assoc] at h1
            exact (List.append_cancel_left h1).symm
          have e2 := congrArg List.length e1
          rcases hpp : posN (L.drop p) with _ | k
          · rw [partsAt_none hpp] at e2
            simp at e2
            exact e2
          · rw [partsAt_some hpp] at e1
            simp at e1
        rw [← h1, h4, List.append_nil]
      · gi_wp2
        refine bodyPost_ret (results_none rfl _ _ _) rfl ?_
        exact ⟨⟨_, rfl⟩, .inr ⟨_, HT1.out, hJx3⟩⟩
    | some k =>
      obtain ⟨hk1, hk2, hk3⟩ := posN_some hpos
      rw [List.length_drop, HL.out.len] at hk1
      have hi : posI (L.drop p) = (k : Int) := by unfold posI; rw [hpos]
      have hT1 : Tells A L (pre ++ [(A', (p, k, true))]) := by
        refine ⟨⟨partsAt f L (p + k + 1), ?_⟩, fun x hx => ?_⟩
        · rw [← HH.out.all, partsAt_some hpos, List.map_append, List.append_assoc]; rfl
        · rcases List.mem_append.1 hx with hx | hx
          · exact HH.out.ok x hx
          · obtain rfl := List.mem_singleton.1 hx
            exact fun h => HH.out.adr (by omega)
      have hall := HH.out.all
      rw [partsAt_some hpos] at hall
      obtain ⟨fn, tmps, assign, body, hy, hR⟩ := hY _ (A', (p, k, true)) wr HH.out.inv hT1
      dsimp only [toldV] at hy
      obtain ⟨m, hm⟩ : ∃ m, len - p = m := ⟨_, rfl⟩
      obtain ⟨q, hq⟩ : ∃ q, cap - p = q := ⟨_, rfl⟩
      have HT1 := Lib.hid hT1
      have HI := Lib.hid hi
      have HALL := Lib.hid hall
      have HM := Lib.hid hm
      have HQ := Lib.hid hq
      rw [hm, hq] at hbx FIN IX
      rw [hm] at R hk1
      rw [hq] at hy
      have hmq : m ≤ q := by omega
      have hq63 : q ≤ 9223372036854775807 := by omega
      clear hT1 hpos hi hp hfu hall hk2 hk3 hm hq
      have u1 : decide ((k : Int) < 0) = false := decide_eq_false (by omega)
      gi_wp2_with (refine ⟨trivial, ?_⟩; gi_at_call 21; refine (callsIn_wide.2 (IX.out _ R.out)).mono ?_; rintro e w2 ⟨rfl, rfl⟩; rw [HI.out])
      refine hR.mono ?_
      rintro e W3 (⟨rfl, hJ3, hkq⟩ | ⟨rfl, hJx3⟩)
      · obtain ⟨bx3, rd3⟩ := FIN.out W3 hkq
        have bc3 := bx3.cell
        have bf3 := bx3.frozen
        have BX3 := Lib.hid bx3
        clear bx3
        by_cases hqk : q = k + 1
        · gi_wp2
          have h1 := (BX3.out.set (.slice A' (m - (k + 1)) 0)).cell
          refine ⟨⟨_, _, _, _, HH.out.next hcap HALL.out HT1.out hk1 HM.out HQ.out (.inl ⟨by have := HQ.out; omega, rfl, by omega⟩) BX3.out rd3 (fun hn a e => (hQA hn a e).2) (hT _ _ _ hJ3 ⟨_, rfl⟩)⟩, ?_⟩
          rw [h1, hbx]
          show m - (k + 1) < m
          omega
        · gi_wp2
          have h1 := (BX3.out.set (.slice (Option.map (fun x => { block := x.block, off := x.off + (k + 1) }) A') (m - (k + 1)) (q - (k + 1)))).cell
          refine ⟨⟨_, _, _, _, HH.out.next hcap HALL.out HT1.out hk1 HM.out HQ.out (.inr ⟨by have := HQ.out; omega, rfl, rfl⟩) BX3.out rd3 (fun hn a e => (hQA hn a e).2) (hT _ _ _ hJ3 ⟨_, rfl⟩)⟩, ?_⟩
          rw [h1, hbx]
          show m - (k + 1) < m
          omega
      · gi_wp2
        refine bodyPost_ret (results_none rfl _ _ _) rfl ?_
        exact ⟨⟨_, rfl⟩, .inr ⟨_, HT1.out, hJx3⟩⟩

end Go.Proofs.Ytfmfooocfcdalaa
