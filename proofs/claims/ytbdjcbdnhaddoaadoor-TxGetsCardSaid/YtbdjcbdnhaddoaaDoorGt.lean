/- Transactions, their bytes, and how bytes are read, over lists. No program here. -/
import Derived.Test.YtbdjcbdnhaddoaaDoorGa
import Derived.Test.YtbdjcbdnhaddoaaDoorGb
import Derived.Deep.MidRow
import Derived.Great.BuildSlice
import Derived.Maps.AppendAt
import Derived.RegionTactic
import Derived.LoopTactic
import Derived.BigQuiet

namespace Go.Proofs.YtbdjcbdnhaddoaaDoor

/-- So many bytes of a number, the lowest one first. -/
def low : Nat → Nat → List Nat
  | 0, _ => []
  | k + 1, n => n % 256 :: low k (n / 256)
theorem low_len : ∀ k n, (low k n).length = k
  | 0, _ => rfl
  | k + 1, n => by rw [low, List.length_cons, low_len k]
theorem low_byt : ∀ k n, AllB (low k n)
  | 0, _ => allB_nil
  | k + 1, n => fun x hx => by
    rcases List.mem_cons.1 hx with rfl | h
    · omega
    · exact low_byt k _ x h
def valLE : List Nat → Nat
  | [] => 0
  | x :: l => x + 256 * valLE l
theorem val_low : ∀ k n, n < 256 ^ k → valLE (low k n) = n
  | 0, n, h => by simp at h; subst h; rfl
  | k + 1, n, h => by
    rw [low, valLE, val_low k (n / 256) (by rw [Nat.pow_succ] at h; exact Nat.div_lt_of_lt_mul (by rw [Nat.mul_comm]; exact h))]
    omega
theorem val_lt : ∀ {L : List Nat}, AllB L → valLE L < 256 ^ L.length
  | [], _ => by decide
  | x :: l, h => by
    have h1 := h x (by simp)
    have h2 := val_lt (L := l) (fun y hy => h y (by simp [hy]))
    rw [valLE, List.length_cons, Nat.pow_succ]
    omega
theorem low_inj {k n m : Nat} (h1 : n < 256 ^ k) (h2 : m < 256 ^ k) (h : low k n = low k m) : n = m := by rw [← val_low k n h1, h, val_low k m h2]
/-- The bytes of a count. -/
def countS (n : Nat) : List Nat := if n < 253 then [n] else if n < 65536 then 253 :: low 2 n else if n < 4294967296 then 254 :: low 4 n else 255 :: low 8 n
theorem countS_byt (n : Nat) : AllB (countS n) := by
  unfold countS
  split
  · exact allB_one (by omega)
  · split
    · exact AllB.app (L := [253]) (allB_one (by decide)) (low_byt 2 n)
    · split
      · exact AllB.app (L := [254]) (allB_one (by decide)) (low_byt 4 n)
      · exact AllB.app (L := [255]) (allB_one (by decide)) (low_byt 8 n)
theorem countS_pos (n : Nat) : 0 < (countS n).length := by
  unfold countS
  split
  · simp
  · split
    · simp
    · split <;> simp
theorem countS_len (n : Nat) : (countS n).length ≤ 9 := by
  unfold countS
  split
  · simp
  · split
    · simp [low_len]
    · split <;> simp [low_len]
def itemS (b : List Nat) : List Nat := countS b.length ++ b
theorem itemS_byt {b : List Nat} (h : AllB b) : AllB (itemS b) := AllB.app (countS_byt _) h

/-- An input. -/
structure InD where
  h : List Nat
  n : Nat
  s : List Nat
  q : Nat
  w : List (List Nat)
  deriving DecidableEq
structure OutD where
  v : Nat
  s : List Nat
  deriving DecidableEq
structure TxD where
  ver : Nat
  ins : List InD
  outs : List OutD
  lock : Nat
  deriving DecidableEq
def AllBB (l : List (List Nat)) : Prop := ∀ x ∈ l, AllB x
structure InD.Ok (i : InD) : Prop where
  h : i.h.length = 32
  hb : AllB i.h
  n : i.n < 4294967296
  s : AllB i.s
  q : i.q < 4294967296
  w : AllBB i.w
structure OutD.Ok (o : OutD) : Prop where
  v : o.v < 18446744073709551616
  s : AllB o.s
structure TxD.Ok (t : TxD) : Prop where
  ver : t.ver < 4294967296
  ins : ∀ i ∈ t.ins, i.Ok
  outs : ∀ o ∈ t.outs, o.Ok
  lock : t.lock < 4294967296
def inS (i : InD) : List Nat := i.h ++ (low 4 i.n ++ (itemS i.s ++ low 4 i.q))
def outS (o : OutD) : List Nat := low 8 o.v ++ itemS o.s
def insS (l : List InD) : List Nat := l.flatMap inS
def outsS (l : List OutD) : List Nat := l.flatMap outS
def itemsS (l : List (List Nat)) : List Nat := l.flatMap itemS
def witS1 (i : InD) : List Nat := countS i.w.length ++ itemsS i.w
def witS (l : List InD) : List Nat := l.flatMap witS1
def bodyS (t : TxD) : List Nat := countS t.ins.length ++ (insS t.ins ++ (countS t.outs.length ++ outsS t.outs))
def bareS (t : TxD) : List Nat := low 4 t.ver ++ (bodyS t ++ low 4 t.lock)
def seen (t : TxD) : Bool := t.ins.any fun i => decide (0 < i.w.length)
def putS (t : TxD) : List Nat := if seen t then low 4 t.ver ++ (0 :: 1 :: (bodyS t ++ (witS t.ins ++ low 4 t.lock))) else bareS t
theorem flat_byt {α : Type} {f : α → List Nat} : ∀ {l : List α}, (∀ x ∈ l, AllB (f x)) → AllB (l.flatMap f)
  | [], _ => allB_nil
  | x :: l, h => by
    rw [List.flatMap_cons]
    exact AllB.app (h x (by simp)) (flat_byt fun y hy => h y (by simp [hy]))
theorem inS_byt {i : InD} (h : i.Ok) : AllB (inS i) := AllB.app h.hb (AllB.app (low_byt _ _) (AllB.app (itemS_byt h.s) (low_byt _ _)))
theorem outS_byt {o : OutD} (h : o.Ok) : AllB (outS o) := AllB.app (low_byt _ _) (itemS_byt h.s)
theorem witS1_byt {i : InD} (h : i.Ok) : AllB (witS1 i) := AllB.app (countS_byt _) (flat_byt fun x hx => itemS_byt (h.w x hx))
theorem bodyS_byt {t : TxD} (h : t.Ok) : AllB (bodyS t) := AllB.app (countS_byt _) (AllB.app (flat_byt fun i hi => inS_byt (h.ins i hi)) (AllB.app (countS_byt _) (flat_byt fun o ho => outS_byt (h.outs o ho))))
theorem bareS_byt {t : TxD} (h : t.Ok) : AllB (bareS t) := AllB.app (low_byt _ _) (AllB.app (bodyS_byt h) (low_byt _ _))
theorem putS_byt {t : TxD} (h : t.Ok) : AllB (putS t) := by
  unfold putS
  split
  · refine AllB.app (low_byt _ _) (AllB.app (L := [0, 1]) ?_ (AllB.app (bodyS_byt h) (AllB.app (flat_byt fun i hi => witS1_byt (h.ins i hi)) (low_byt _ _))))
    intro x hx
    simp at hx
    omega
  · exact bareS_byt h

/-! ### reading -/
def takeP (n : Nat) (b : List Nat) : Option (List Nat × List Nat) := if n ≤ b.length then some (b.take n, b.drop n) else none
def numP (k : Nat) (b : List Nat) : Option (Nat × List Nat) := (takeP k b).map fun x => (valLE x.1, x.2)
def cntP (b : List Nat) : Option (Nat × List Nat) := (numP 1 b).bind fun x => if x.1 = 253 then numP 2 x.2 else if x.1 = 254 then numP 4 x.2 else if x.1 = 255 then numP 8 x.2 else some x
def itemP (b : List Nat) : Option (List Nat × List Nat) := (cntP b).bind fun x => takeP x.1 x.2
def listP {α : Type} (p : List Nat → Option (α × List Nat)) : Nat → List Nat → Option (List α × List Nat)
  | 0, b => some ([], b)
  | n + 1, b => (p b).bind fun x => (listP p n x.2).map fun y => (x.1 :: y.1, y.2)
def inP (b : List Nat) : Option (InD × List Nat) := (takeP 32 b).bind fun h => (numP 4 h.2).bind fun n => (itemP n.2).bind fun s => (numP 4 s.2).map fun q => (⟨h.1, n.1, s.1, q.1, []⟩, q.2)
def outP (b : List Nat) : Option (OutD × List Nat) := (numP 8 b).bind fun v => (itemP v.2).map fun s => (⟨v.1, s.1⟩, s.2)
def witP (b : List Nat) : Option (List (List Nat) × List Nat) := (cntP b).bind fun n => listP itemP n.1 n.2
def withW (i : InD) (w : List (List Nat)) : InD := ⟨i.h, i.n, i.s, i.q, w⟩
/-- Is there a mark that there are witnesses? -/
def marked (b : List Nat) : Bool := decide (1 < b.length) && decide (nth b 0 = 0)
def txP (b : List Nat) : Option (TxD × List Nat) :=
  (numP 4 b).bind fun v =>
  (cntP (if marked v.2 then v.2.drop 2 else v.2)).bind fun n =>
  (listP inP n.1 n.2).bind fun is =>
  (cntP is.2).bind fun m =>
  (listP outP m.1 m.2).bind fun os =>
  (if marked v.2 then (listP witP is.1.length os.2).map fun x => (List.zipWith withW is.1 x.1, x.2) else some (is.1, os.2)).bind fun ws =>
  (numP 4 ws.2).map fun l => (⟨v.1, ws.1, os.1, l.1⟩, l.2)

theorem takeP_app (a r : List Nat) {n : Nat} (h : a.length = n) : takeP n (a ++ r) = some (a, r) := by
  subst h
  unfold takeP
  rw [if_pos (by simp), List.take_left, List.drop_left]
theorem numP_low (k n : Nat) (r : List Nat) (h : n < 256 ^ k) : numP k (low k n ++ r) = some (n, r) := by
  unfold numP
  rw [takeP_app _ _ (low_len k n), Option.map_some, val_low k n h]
theorem cntP_count (n : Nat) (r : List Nat) (h : n < 18446744073709551616) : cntP (countS n ++ r) = some (n, r) := by
  have one : ∀ x r', x < 256 → numP 1 (x :: r') = some (x, r') := fun x r' hx => by simp [numP, takeP, valLE]
  unfold cntP countS
  split
  · rename_i h1
    rw [List.singleton_append, one n r (by omega), Option.bind_some]
    simp only
    rw [if_neg (by omega), if_neg (by omega), if_neg (by omega)]
  · split
    · rw [List.cons_append, one _ _ (by decide), Option.bind_some]
      simp only [if_true]
      exact numP_low 2 n r (by omega)
    · split
      · rw [List.cons_append, one _ _ (by decide), Option.bind_some]
        simp only [if_true]
        exact numP_low 4 n r (by omega)
      · rw [List.cons_append, one _ _ (by decide), Option.bind_some]
        simp only [if_true]
        exact numP_low 8 n r (by omega)
theorem itemP_item (b r : List Nat) (h : b.length < 18446744073709551616) : itemP (itemS b ++ r) = some (b, r) := by
  unfold itemP itemS
  rw [List.append_assoc, cntP_count _ _ h, Option.bind_some]
  exact takeP_app b r rfl
theorem listP_flat {α : Type} {p : List Nat → Option (α × List Nat)} {f : α → List Nat} : ∀ (l : List α) (r : List Nat), (∀ x ∈ l, ∀ r, p (f x ++ r) = some (x, r)) → listP p l.length (l.flatMap f ++ r) = some (l, r)
  | [], r, _ => rfl
  | x :: l, r, h => by
    rw [List.flatMap_cons, List.append_assoc, List.length_cons, listP, h x (by simp), Option.bind_some, listP_flat l r (fun y hy => h y (by simp [hy])), Option.map_some]
/-- The lengths are those of a program's slices. -/
structure TxD.Fit (t : TxD) : Prop where
  ins : t.ins.length < 18446744073709551616
  outs : t.outs.length < 18446744073709551616
  is : ∀ i ∈ t.ins, i.s.length < 18446744073709551616 ∧ i.w.length < 18446744073709551616 ∧ ∀ x ∈ i.w, x.length < 18446744073709551616
  os : ∀ o ∈ t.outs, o.s.length < 18446744073709551616
theorem inP_in {i : InD} (h : i.Ok) (hs : i.s.length < 18446744073709551616) (r : List Nat) : inP (inS i ++ r) = some (withW i [], r) := by
  unfold inP inS
  rw [List.append_assoc, takeP_app _ _ h.h, Option.bind_some]
  simp only
  rw [List.append_assoc, numP_low 4 _ _ h.n, Option.bind_some]
  simp only
  rw [List.append_assoc, itemP_item _ _ hs, Option.bind_some]
  simp only
  rw [numP_low 4 _ _ h.q, Option.map_some]
  rfl
theorem outP_out {o : OutD} (h : o.Ok) (hs : o.s.length < 18446744073709551616) (r : List Nat) : outP (outS o ++ r) = some (o, r) := by
  unfold outP outS
  rw [List.append_assoc, numP_low 8 _ _ h.v, Option.bind_some]
  simp only
  rw [itemP_item _ _ hs, Option.map_some]
theorem witP_wit {i : InD} (hw : i.w.length < 18446744073709551616) (hx : ∀ x ∈ i.w, x.length < 18446744073709551616) (r : List Nat) : witP (witS1 i ++ r) = some (i.w, r) := by
  unfold witP witS1
  rw [List.append_assoc, cntP_count _ _ hw, Option.bind_some]
  exact listP_flat i.w r fun x hm r => itemP_item x r (hx x hm)
theorem listP_map {α β : Type} {p : List Nat → Option (β × List Nat)} {f : α → List Nat} {g : α → β} : ∀ (l : List α) (r : List Nat), (∀ x ∈ l, ∀ r, p (f x ++ r) = some (g x, r)) → listP p l.length (l.flatMap f ++ r) = some (l.map g, r)
  | [], r, _ => rfl
  | x :: l, r, h => by
    rw [List.flatMap_cons, List.append_assoc, List.length_cons, listP, h x (by simp), Option.bind_some, listP_map l r (fun y hy => h y (by simp [hy])), Option.map_some, List.map_cons]
/-- A transaction without any Witness. -/
def plain (t : TxD) : TxD := ⟨t.ver, t.ins.map fun i => withW i [], t.outs, t.lock⟩
theorem withW_self (i : InD) : withW i i.w = i := rfl
theorem zip_w : ∀ l : List InD, List.zipWith withW (l.map fun i => withW i []) (l.map fun i => i.w) = l
  | [] => rfl
  | i :: l => by rw [List.map_cons, List.map_cons, List.zipWith_cons_cons, zip_w l]; rfl
theorem countS_head {n : Nat} (h : n ≠ 0) (r : List Nat) : nth (countS n ++ r) 0 ≠ 0 := by
  unfold countS
  split
  · exact h
  · split
    · show (253 : Nat) ≠ 0; decide
    · split
      · show (254 : Nat) ≠ 0; decide
      · show (255 : Nat) ≠ 0; decide
/-- What the bytes without Witness read as. -/
theorem txP_bare {t : TxD} (h : t.Ok) (f : t.Fit) (hi : t.ins ≠ []) : txP (bareS t) = some (plain t, []) := by
  have h0 : t.ins.length ≠ 0 := fun e => hi (List.eq_nil_of_length_eq_zero e)
  unfold txP bareS
  rw [numP_low 4 _ _ h.ver, Option.bind_some]
  have hm : marked (bodyS t ++ low 4 t.lock) = false := by
    unfold marked bodyS
    rw [List.append_assoc, Bool.and_eq_false_iff]
    exact .inr (decide_eq_false (countS_head h0 _))
  simp only [hm, Bool.false_eq_true, if_false]
  unfold bodyS
  rw [List.append_assoc, cntP_count _ _ f.ins, Option.bind_some]
  simp only
  rw [List.append_assoc, show listP inP t.ins.length (insS t.ins ++ ((countS t.outs.length ++ outsS t.outs) ++ low 4 t.lock)) = some (t.ins.map fun i => withW i [], (countS t.outs.length ++ outsS t.outs) ++ low 4 t.lock) from listP_map t.ins _ fun i hi r => inP_in (h.ins i hi) (f.is i hi).1 r, Option.bind_some]
  simp only
  rw [List.append_assoc, cntP_count _ _ f.outs, Option.bind_some]
  simp only
  rw [show listP outP t.outs.length (outsS t.outs ++ low 4 t.lock) = some (t.outs, low 4 t.lock) from listP_flat t.outs _ fun o ho r => outP_out (h.outs o ho) (f.os o ho) r, Option.bind_some]
  simp only [Option.bind_some]
  rw [show low 4 t.lock = low 4 t.lock ++ [] from (List.append_nil _).symm, numP_low 4 _ _ h.lock]
  rfl
/-- What bytes with a mark read as. -/
theorem txP_mark {t : TxD} (h : t.Ok) (f : t.Fit) (x : Nat) : txP (low 4 t.ver ++ (0 :: x :: (bodyS t ++ (witS t.ins ++ low 4 t.lock)))) = some (t, []) := by
  unfold txP
  rw [numP_low 4 _ _ h.ver, Option.bind_some]
  have hm : marked (0 :: x :: (bodyS t ++ (witS t.ins ++ low 4 t.lock))) = true := by
    unfold marked
    rw [Bool.and_eq_true]
    exact ⟨decide_eq_true (by simp), decide_eq_true rfl⟩
  simp only [hm, if_true, List.drop_succ_cons, List.drop_zero]
  unfold bodyS
  rw [List.append_assoc, cntP_count _ _ f.ins, Option.bind_some]
  simp only
  rw [List.append_assoc, show listP inP t.ins.length (insS t.ins ++ ((countS t.outs.length ++ outsS t.outs) ++ (witS t.ins ++ low 4 t.lock))) = some (t.ins.map fun i => withW i [], (countS t.outs.length ++ outsS t.outs) ++ (witS t.ins ++ low 4 t.lock)) from listP_map t.ins _ fun i hi r => inP_in (h.ins i hi) (f.is i hi).1 r, Option.bind_some]
  simp only
  rw [List.append_assoc, cntP_count _ _ f.outs, Option.bind_some]
  simp only
  rw [show listP outP t.outs.length (outsS t.outs ++ (witS t.ins ++ low 4 t.lock)) = some (t.outs, witS t.ins ++ low 4 t.lock) from listP_flat t.outs _ fun o ho r => outP_out (h.outs o ho) (f.os o ho) r, Option.bind_some]
  simp only
  rw [List.length_map, show listP witP t.ins.length (witS t.ins ++ low 4 t.lock) = some (t.ins.map fun i => i.w, low 4 t.lock) from listP_map t.ins _ fun i hi r => witP_wit (f.is i hi).2.1 (f.is i hi).2.2 r, Option.map_some, Option.bind_some]
  simp only [zip_w]
  rw [show low 4 t.lock = low 4 t.lock ++ [] from (List.append_nil _).symm, numP_low 4 _ _ h.lock]
  rfl
theorem seen_plain (t : TxD) : seen (plain t) = false := by
  unfold seen plain
  rw [List.any_map, List.any_eq_false]
  intro i _
  simp [withW]
theorem plain_self {t : TxD} (h : seen t = false) : plain t = t := by
  have : (t.ins.map fun i => withW i []) = t.ins := by
    conv => rhs; rw [← List.map_id t.ins]
    apply List.map_congr_left
    intro i hi
    have := List.any_eq_false.1 h i hi
    have e : i.w = [] := List.eq_nil_of_length_eq_zero (by simpa using this)
    show withW i [] = i
    rw [← e]; rfl
  unfold plain
  rw [this]
/-- What was put is read as it was. -/
theorem txP_put {t : TxD} (h : t.Ok) (f : t.Fit) (hi : t.ins ≠ []) : txP (putS t) = some (t, []) := by
  unfold putS
  cases e : seen t with
  | true => rw [if_pos rfl]; exact txP_mark h f 1
  | false => rw [if_neg (by decide), txP_bare h f hi, plain_self e]

/-! ### which may be -/
def froms (t : TxD) : List (List Nat × Nat) := t.ins.map fun i => (i.h, i.n)
def moneyS (l : List OutD) : Nat := (l.map fun o => o.v).sum
structure May (t : TxD) : Prop where
  ins : t.ins ≠ []
  outs : t.outs ≠ []
  apart : (froms t).Nodup
  money : moneyS t.outs ≤ 2100000000000000
  size : (putS t).length ≤ 16384
instance (t : TxD) : Decidable (May t) := decidable_of_iff (t.ins ≠ [] ∧ t.outs ≠ [] ∧ (froms t).Nodup ∧ moneyS t.outs ≤ 2100000000000000 ∧ (putS t).length ≤ 16384) ⟨fun ⟨a, b, c, d, e⟩ => ⟨a, b, c, d, e⟩, fun h => ⟨h.ins, h.outs, h.apart, h.money, h.size⟩⟩
def zeroT : TxD := ⟨0, [], [], 0⟩
/-- The transaction that bytes are; and the answer's number. -/
def getE (b : List Nat) : Nat := if 16384 < b.length then 6 else match txP b with
  | some (t, []) => if May t ∧ putS t = b then 0 else 5
  | _ => 5
def getT (b : List Nat) : TxD := if 16384 < b.length then zeroT else match txP b with
  | some (t, []) => if May t ∧ putS t = b then t else zeroT
  | _ => zeroT
theorem get_put {t : TxD} (h : t.Ok) (f : t.Fit) (m : May t) : getE (putS t) = 0 ∧ getT (putS t) = t := by
  unfold getE getT
  rw [if_neg (by have := m.size; omega), if_neg (by have := m.size; omega), txP_put h f m.ins]
  simp [m]
theorem get_ok {b : List Nat} (h : getE b = 0) : May (getT b) ∧ putS (getT b) = b := by
  unfold getE at h
  unfold getT
  split at h
  · cases h
  · rename_i h1
    rw [if_neg h1]
    split at h
    · rename_i t e
      split at h
      · rename_i h2
        rw [if_pos h2]
        exact h2
      · cases h
    · cases h
theorem get_long {b : List Nat} (h : 16384 < b.length) : getE b = 6 ∧ getT b = zeroT := by
  unfold getE getT
  rw [if_pos h, if_pos h]
  exact ⟨rfl, rfl⟩
/-- Bytes that read as another transaction's are none. -/
theorem get_bad {b : List Nat} (h : b.length ≤ 16384) {t : TxD} {r : List Nat} (e : txP b = some (t, r)) (hn : putS t ≠ b) : getE b = 5 := by
  unfold getE
  rw [if_neg (by omega), e]
  cases r with
  | nil => simp [hn]
  | cons => rfl
theorem bare_plain (t : TxD) : bareS (plain t) = bareS t := by
  unfold bareS bodyS plain insS
  rw [List.length_map, List.flatMap_map]
  rfl
theorem put_plain (t : TxD) : putS (plain t) = bareS t := by
  unfold putS
  rw [seen_plain, if_neg (by decide), bare_plain]
/-- Whatever it has but the Witness turns the bare bytes. -/
theorem bare_inj {t u : TxD} (h : t.Ok) (f : t.Fit) (k : u.Ok) (g : u.Fit) (e : bareS t = bareS u) : plain t = plain u := by
  have body : ∀ {t : TxD}, t.Ok → t.Fit → ∀ r, (cntP (bodyS t ++ r)).bind (fun n => (listP inP n.1 n.2).bind fun is => (cntP is.2).bind fun m => (listP outP m.1 m.2).map fun os => ((is.1, os.1), os.2)) = some (((t.ins.map fun i => withW i []), t.outs), r) := by
    intro t h f r
    unfold bodyS
    rw [List.append_assoc, cntP_count _ _ f.ins, Option.bind_some]
    simp only
    rw [List.append_assoc, show listP inP t.ins.length (insS t.ins ++ ((countS t.outs.length ++ outsS t.outs) ++ r)) = some (t.ins.map fun i => withW i [], (countS t.outs.length ++ outsS t.outs) ++ r) from listP_map t.ins _ fun i hi r => inP_in (h.ins i hi) (f.is i hi).1 r, Option.bind_some]
    simp only
    rw [List.append_assoc, cntP_count _ _ f.outs, Option.bind_some]
    simp only
    rw [show listP outP t.outs.length (outsS t.outs ++ r) = some (t.outs, r) from listP_flat t.outs _ fun o ho r => outP_out (h.outs o ho) (f.os o ho) r, Option.map_some]
  unfold bareS at e
  obtain ⟨e1, e2⟩ := List.append_inj e (by rw [low_len, low_len])
  have b1 := body h f (low 4 t.lock)
  have b2 := body k g (low 4 u.lock)
  rw [e2, b2] at b1
  injection b1 with b1
  simp only [Prod.mk.injEq] at b1
  obtain ⟨⟨q1, q2⟩, q3⟩ := b1
  have v1 := low_inj h.ver k.ver e1
  have v2 := low_inj k.lock h.lock q3
  unfold plain
  rw [v1, ← q1, ← q2, v2]
end Go.Proofs.YtbdjcbdnhaddoaaDoor

/- What reading leaves, and how long what is read may be. No program here. -/
namespace Go.Proofs.YtbdjcbdnhaddoaaDoor

theorem takeP_some {n : Nat} {b x r : List Nat} (h : takeP n b = some (x, r)) : b = x ++ r ∧ x.length = n := by
  unfold takeP at h
  split at h
  · rename_i hn
    injection h with h
    simp only [Prod.mk.injEq] at h
    obtain ⟨rfl, rfl⟩ := h
    exact ⟨(List.take_append_drop n b).symm, by rw [List.length_take]; omega⟩
  · cases h
theorem takeP_none {n : Nat} {b : List Nat} (h : b.length < n) : takeP n b = none := by
  unfold takeP
  rw [if_neg (by omega)]
theorem takeP_yes {n : Nat} {b : List Nat} (h : n ≤ b.length) : takeP n b = some (b.take n, b.drop n) := by
  unfold takeP
  rw [if_pos h]
theorem numP_some {k : Nat} {b : List Nat} {x : Nat} {r : List Nat} (h : numP k b = some (x, r)) (hb : AllB b) : r.length + k = b.length ∧ AllB r ∧ x < 256 ^ k := by
  unfold numP at h
  obtain ⟨⟨y, r'⟩, h1, h2⟩ := Option.map_eq_some_iff.1 h
  simp only [Prod.mk.injEq] at h2
  obtain ⟨rfl, rfl⟩ := h2
  obtain ⟨rfl, hl⟩ := takeP_some h1
  refine ⟨by rw [List.length_append]; omega, fun z hz => hb z (List.mem_append_right _ hz), ?_⟩
  have := val_lt (L := y) hb.left
  rwa [hl] at this
theorem cntP_some {b : List Nat} {x : Nat} {r : List Nat} (h : cntP b = some (x, r)) (hb : AllB b) : r.length < b.length ∧ AllB r ∧ x < 18446744073709551616 := by
  unfold cntP at h
  obtain ⟨⟨y, r1⟩, h1, h2⟩ := Option.bind_eq_some_iff.1 h
  obtain ⟨l1, b1, v1⟩ := numP_some h1 hb
  simp only at h2
  split at h2
  · obtain ⟨l2, b2, v2⟩ := numP_some h2 b1
    exact ⟨by omega, b2, by omega⟩
  · split at h2
    · obtain ⟨l2, b2, v2⟩ := numP_some h2 b1
      exact ⟨by omega, b2, by omega⟩
    · split at h2
      · obtain ⟨l2, b2, v2⟩ := numP_some h2 b1
        exact ⟨by omega, b2, by omega⟩
      · injection h2 with h2
        simp only [Prod.mk.injEq] at h2
        obtain ⟨rfl, rfl⟩ := h2
        exact ⟨by omega, b1, by omega⟩
theorem itemP_some {b x r : List Nat} (h : itemP b = some (x, r)) (hb : AllB b) : r.length + x.length < b.length ∧ AllB r ∧ AllB x := by
  unfold itemP at h
  obtain ⟨⟨n, r1⟩, h1, h2⟩ := Option.bind_eq_some_iff.1 h
  obtain ⟨l1, b1, _⟩ := cntP_some h1 hb
  simp only at h2
  obtain ⟨rfl, hl⟩ := takeP_some h2
  rw [List.length_append] at l1
  exact ⟨by omega, fun z hz => b1 z (List.mem_append_right _ hz), b1.left⟩
/-- What each of a list leaves. -/
theorem listP_some {α : Type} {p : List Nat → Option (α × List Nat)} {G : α → Prop} (hp : ∀ b x r, p b = some (x, r) → AllB b → r.length < b.length ∧ AllB r ∧ G x) : ∀ (n : Nat) {b r : List Nat} {l : List α}, listP p n b = some (l, r) → AllB b → r.length + n ≤ b.length ∧ AllB r ∧ l.length = n ∧ ∀ x ∈ l, G x
  | 0, b, r, l, h, hb => by
    injection h with h
    simp only [Prod.mk.injEq] at h
    obtain ⟨rfl, rfl⟩ := h
    exact ⟨Nat.le_refl _, hb, rfl, fun x hx => by cases hx⟩
  | n + 1, b, r, l, h, hb => by
    unfold listP at h
    obtain ⟨⟨x, r1⟩, h1, h2⟩ := Option.bind_eq_some_iff.1 h
    obtain ⟨⟨l2, r2⟩, h3, h4⟩ := Option.map_eq_some_iff.1 h2
    simp only [Prod.mk.injEq] at h4
    obtain ⟨rfl, rfl⟩ := h4
    obtain ⟨a1, a2, a3⟩ := hp _ _ _ h1 hb
    obtain ⟨c1, c2, c3, c4⟩ := listP_some hp n h3 a2
    dsimp only at c1
    refine ⟨by omega, c2, by rw [List.length_cons, c3], fun y hy => ?_⟩
    rcases List.mem_cons.1 hy with rfl | hy
    · exact a3
    · exact c4 y hy
theorem listP_none {α : Type} {p : List Nat → Option (α × List Nat)} (hp : ∀ b x r, p b = some (x, r) → AllB b → r.length < b.length ∧ AllB r) {n : Nat} {b : List Nat} (hb : AllB b) (h : b.length < n) : listP p n b = none := by
  cases e : listP p n b with
  | none => rfl
  | some x =>
    obtain ⟨l, r⟩ := x
    have := (listP_some (G := fun _ => True) (fun b x r h k => ⟨(hp b x r h k).1, (hp b x r h k).2, trivial⟩) n e hb).1
    omega
/-- One more of a list. -/
theorem listP_snoc {α : Type} {p : List Nat → Option (α × List Nat)} : ∀ (k m : Nat) (b : List Nat) {pre : List α} {r : List Nat}, listP p k b = some (pre, r) → listP p (k + m) b = (listP p m r).map fun y => (pre ++ y.1, y.2)
  | 0, m, b, pre, r, h => by
    injection h with h
    simp only [Prod.mk.injEq] at h
    obtain ⟨rfl, rfl⟩ := h
    rw [Nat.zero_add]
    cases listP p m b <;> rfl
  | k + 1, m, b, pre, r, h => by
    unfold listP at h
    obtain ⟨⟨x, r1⟩, h1, h2⟩ := Option.bind_eq_some_iff.1 h
    obtain ⟨⟨l2, r2⟩, h3, h4⟩ := Option.map_eq_some_iff.1 h2
    simp only [Prod.mk.injEq] at h4
    obtain ⟨rfl, rfl⟩ := h4
    rw [show k + 1 + m = (k + m) + 1 by omega, listP, h1, Option.bind_some, listP_snoc k m r1 h3]
    cases listP p m r2 <;> rfl
/-- A whole list is some of it, and the rest. -/
theorem listP_split {α : Type} {p : List Nat → Option (α × List Nat)} {k m : Nat} {b : List Nat} (h : listP p k b = none) : listP p (k + m) b = none := by
  induction k generalizing b with
  | zero => cases h
  | succ k ih =>
    rw [show k + 1 + m = (k + m) + 1 by omega, listP]
    unfold listP at h
    cases e : p b with
    | none => rfl
    | some x =>
      rw [e, Option.bind_some] at h
      rw [Option.bind_some]
      have : listP p k x.2 = none := by
        cases e2 : listP p k x.2 with
        | none => rfl
        | some y => rw [e2] at h; cases h
      rw [ih this]; rfl
theorem inP_some {b : List Nat} {i : InD} {r : List Nat} (h : inP b = some (i, r)) (hb : AllB b) : r.length + i.s.length + 40 < b.length ∧ AllB r ∧ i.Ok ∧ i.w = [] := by
  unfold inP at h
  obtain ⟨⟨y, r1⟩, h1, h⟩ := Option.bind_eq_some_iff.1 h
  obtain ⟨⟨n, r2⟩, h2, h⟩ := Option.bind_eq_some_iff.1 h
  obtain ⟨⟨s, r3⟩, h3, h⟩ := Option.bind_eq_some_iff.1 h
  obtain ⟨⟨q, r4⟩, h4, h⟩ := Option.map_eq_some_iff.1 h
  simp only [Prod.mk.injEq] at h
  obtain ⟨rfl, rfl⟩ := h
  obtain ⟨rfl, l1⟩ := takeP_some h1
  have b1 : AllB r1 := fun z hz => hb z (List.mem_append_right _ hz)
  obtain ⟨l2, b2, v2⟩ := numP_some h2 b1
  obtain ⟨l3, b3, s3⟩ := itemP_some h3 b2
  obtain ⟨l4, b4, v4⟩ := numP_some h4 b3
  rw [List.length_append]
  exact ⟨by dsimp only at *; omega, b4, ⟨l1, hb.left, v2, s3, v4, fun x hx => by cases hx⟩, rfl⟩
theorem outP_some {b : List Nat} {o : OutD} {r : List Nat} (h : outP b = some (o, r)) (hb : AllB b) : r.length + o.s.length + 8 < b.length ∧ AllB r ∧ o.Ok := by
  unfold outP at h
  obtain ⟨⟨v, r1⟩, h1, h⟩ := Option.bind_eq_some_iff.1 h
  obtain ⟨⟨s, r2⟩, h2, h⟩ := Option.map_eq_some_iff.1 h
  simp only [Prod.mk.injEq] at h
  obtain ⟨rfl, rfl⟩ := h
  obtain ⟨l1, b1, v1⟩ := numP_some h1 hb
  obtain ⟨l2, b2, s2⟩ := itemP_some h2 b1
  exact ⟨by dsimp only at *; omega, b2, ⟨v1, s2⟩⟩
theorem witP_some {b : List Nat} {w : List (List Nat)} {r : List Nat} (h : witP b = some (w, r)) (hb : AllB b) : r.length + w.length < b.length ∧ AllB r ∧ ∀ x ∈ w, AllB x ∧ x.length < b.length := by
  unfold witP at h
  obtain ⟨⟨n, r1⟩, h1, h⟩ := Option.bind_eq_some_iff.1 h
  obtain ⟨l1, b1, _⟩ := cntP_some h1 hb
  have key : ∀ (n : Nat) {b r : List Nat} {l : List (List Nat)}, listP itemP n b = some (l, r) → AllB b → ∀ x ∈ l, x.length < b.length + 1 := by
    intro n
    induction n with
    | zero =>
      intro b r l h hb x hx
      injection h with h
      simp only [Prod.mk.injEq] at h
      obtain ⟨rfl, rfl⟩ := h
      cases hx
    | succ n ih =>
      intro b r l h hb x hx
      unfold listP at h
      obtain ⟨⟨y, r1⟩, h1, h2⟩ := Option.bind_eq_some_iff.1 h
      obtain ⟨⟨l2, r2⟩, h3, h4⟩ := Option.map_eq_some_iff.1 h2
      simp only [Prod.mk.injEq] at h4
      obtain ⟨rfl, rfl⟩ := h4
      obtain ⟨a1, a2, a3⟩ := itemP_some h1 hb
      rcases List.mem_cons.1 hx with rfl | hx
      · omega
      · have := ih h3 a2 x hx
        dsimp only at *
        omega
  have k1 := key n h b1
  obtain ⟨a1, a2, a3, a4⟩ := listP_some (p := itemP) (G := AllB) (fun b x r h k => by obtain ⟨x1, x2, x3⟩ := itemP_some h k; exact ⟨by omega, x2, x3⟩) n h b1
  exact ⟨by dsimp only at *; omega, a2, fun x hx => ⟨a4 x hx, by have := k1 x hx; dsimp only at *; omega⟩⟩
end Go.Proofs.YtbdjcbdnhaddoaaDoor

/- Slices whose elements lead to memory of their own: that read as a list, and rows of the call's own. No condition. -/
namespace Go.Proofs.YtbdjcbdnhaddoaaDoor
open Go.RowKit

/-- What lies in the blocks of P lies as it lay. -/
structure Kept (P : Nat → Prop) (w w' : World) : Prop where
  size : w.heap.size ≤ w'.heap.size
  blk : ∀ b, P b → b < w.heap.size → w'.heap[b]? = w.heap[b]?
theorem Kept.of_below {P : Nat → Prop} {w w' : World} (g : Below w.heap.size w w') : Kept P w w' := ⟨g.size, fun b _ hb => g.block b hb⟩
theorem Kept.of_grown {P : Nat → Prop} {w w' : World} {row : Option Nat} (g : w.grownBy w' row) (h : ∀ b, P b → some b ≠ row) : Kept P w w' := ⟨g.size, fun b hp hb => g.block b hb (h b hp)⟩
theorem Kept.cell {P : Nat → Prop} {w w' : World} (g : Kept P w w') {a : Addr} (hp : P a.block) (hb : a.block < w.heap.size) : w'.cell? a = w.cell? a := by
  unfold World.cell?
  rw [g.blk _ hp hb]
theorem Kept.trans {P : Nat → Prop} {w w1 w2 : World} (g : Kept P w w1) (h : Kept P w1 w2) : Kept P w w2 :=
  ⟨Nat.le_trans g.size h.size, fun b hp hb => by rw [h.blk b hp (Nat.lt_of_lt_of_le hb g.size), g.blk b hp hb]⟩
/-- Bytes that lie in a block of P. -/
structure BsP (w : World) (P : Nat → Prop) (A : Option Addr) (n : Nat) (L : List Nat) : Prop where
  bs : Bs w A n L
  inP : 0 < n → ∀ a, A = some a → P a.block
theorem BsP.keep {w w' : World} {P : Nat → Prop} {A : Option Addr} {n : Nat} {L : List Nat} (h : BsP w P A n L) (g : Kept P w w') : BsP w' P A n L :=
  ⟨⟨h.bs.len, h.bs.byt, fun hn => by
    obtain ⟨a, e, hb, hc⟩ := h.bs.cel hn
    have hp := h.inP hn a e
    exact ⟨a, e, Nat.lt_of_lt_of_le hb g.size, fun k hk => by rw [g.cell (by rw [add_block]; exact hp) (by rw [add_block]; exact hb)]; exact hc k hk⟩⟩, h.inP⟩
theorem BsP.weak {w : World} {P Q : Nat → Prop} {A : Option Addr} {n : Nat} {L : List Nat} (h : BsP w P A n L) (q : ∀ b, P b → b < w.heap.size → Q b) : BsP w Q A n L :=
  ⟨h.bs, fun hn a e => by
    obtain ⟨a', e', hb, _⟩ := h.bs.cel hn
    rw [e] at e'
    injection e' with e'
    subst e'
    exact q _ (h.inP hn a e) hb⟩
def anyP : Nat → Prop := fun _ => True
theorem Bs.p {w : World} {A : Option Addr} {n : Nat} {L : List Nat} (h : Bs w A n L) : BsP w anyP A n L := ⟨h, fun _ _ _ => trivial⟩
theorem BsP.nil (w : World) (P : Nat → Prop) (A : Option Addr) : BsP w P A 0 [] := ⟨Bs.nil w A, fun h => absurd h (by omega)⟩

/-- How an element reads. -/
abbrev Reads (α : Type) := World → (Nat → Prop) → List Value → α → Prop
structure Mono {α : Type} (R : Reads α) : Prop where
  keep : ∀ {w w' P V x}, R w P V x → Kept P w w' → R w' P V x
  weak : ∀ {w P Q V x}, R w P V x → (∀ b, P b → b < w.heap.size → Q b) → R w Q V x
/-- Cells that read as a list, element by element. -/
inductive Each {α : Type} (sz : Nat) (R : List Value → α → Prop) : List Value → List α → Prop
  | nil : Each sz R [] []
  | cons {V cs : List Value} {x : α} {l : List α} : V.length = sz → R V x → Each sz R cs l → Each sz R (V ++ cs) (x :: l)
section
variable {α : Type} {sz : Nat} {R S : List Value → α → Prop} {cs ds : List Value} {l m : List α}
theorem Each.len (h : Each sz R cs l) : cs.length = l.length * sz := by
  induction h with
  | nil => simp
  | cons h1 _ _ ih => rw [List.length_append, ih, h1, List.length_cons, Nat.add_mul]; omega
theorem Each.app (h : Each sz R cs l) (k : Each sz R ds m) : Each sz R (cs ++ ds) (l ++ m) := by
  induction h with
  | nil => exact k
  | cons h1 h2 _ ih => rw [List.append_assoc]; exact .cons h1 h2 ih
theorem Each.imp (h : Each sz R cs l) (k : ∀ V x, R V x → S V x) : Each sz S cs l := by
  induction h with
  | nil => exact .nil
  | cons h1 h2 _ ih => exact .cons h1 (k _ _ h2) ih
theorem Each.one {V : List Value} {x : α} (h : V.length = sz) (k : R V x) : Each sz R V [x] := by
  have := Each.cons h k (Each.nil (sz := sz) (R := R))
  rwa [List.append_nil] at this
theorem Each.at_ (h : Each sz R cs l) {k : Nat} (hk : k < l.length) : ∃ X V Z, cs = X ++ (V ++ Z) ∧ X.length = k * sz ∧ V.length = sz ∧ R V l[k] ∧ Each sz R X (l.take k) ∧ Each sz R Z (l.drop (k + 1)) := by
  induction h generalizing k with
  | nil => cases hk
  | @cons V cs x l h1 h2 h3 ih =>
    cases k with
    | zero => exact ⟨[], V, cs, rfl, by simp, h1, h2, .nil, h3⟩
    | succ k =>
      obtain ⟨X, V', Z, e, a1, a2, a3, a4, a5⟩ := ih (k := k) (by simpa using hk)
      subst e
      refine ⟨V ++ X, V', Z, by rw [List.append_assoc], by rw [List.length_append, h1, a1, Nat.add_mul]; omega, a2, a3, ?_, a5⟩
      rw [List.take_succ_cons]
      exact .cons h1 h2 a4
end
/-- A slice at A of n elements reads as l. -/
structure Rows {α : Type} (w : World) (P : Nat → Prop) (sz : Nat) (R : Reads α) (A : Option Addr) (n : Nat) (l : List α) : Prop where
  len : l.length = n
  cel : 0 < n → ∃ b o cs, A = some ⟨b, o, none⟩ ∧ b < w.heap.size ∧ P b ∧ w.rangeAt b o cs ∧ Each sz (R w P) cs l
section
variable {α : Type} {w w' : World} {P Q : Nat → Prop} {sz : Nat} {R : Reads α} {A : Option Addr} {n : Nat} {l : List α}
theorem Rows.nil (w : World) (P : Nat → Prop) (sz : Nat) (R : Reads α) (A : Option Addr) : Rows w P sz R A 0 [] := ⟨rfl, fun h => absurd h (by omega)⟩
theorem Rows.keep (M : Mono R) (h : Rows w P sz R A n l) (g : Kept P w w') : Rows w' P sz R A n l :=
  ⟨h.len, fun hn => by
    obtain ⟨b, o, cs, e, hb, hp, hr, he⟩ := h.cel hn
    exact ⟨b, o, cs, e, Nat.lt_of_lt_of_le hb g.size, hp, fun j v hj => by rw [g.cell hp hb]; exact hr j v hj, he.imp fun V x hx => M.keep hx g⟩⟩
theorem Rows.weak (M : Mono R) (h : Rows w P sz R A n l) (q : ∀ b, P b → b < w.heap.size → Q b) : Rows w Q sz R A n l :=
  ⟨h.len, fun hn => by
    obtain ⟨b, o, cs, e, hb, hp, hr, he⟩ := h.cel hn
    exact ⟨b, o, cs, e, hb, q b hp hb, hr, he.imp fun V x hx => M.weak hx q⟩⟩
theorem Rows.later (M : Mono R) (h : Rows w P sz R A n l) (g : Below w.heap.size w w') : Rows w' P sz R A n l := h.keep M (Kept.of_below g)
theorem Rows.at_ {b o : Nat} (h : Rows w P sz R (some ⟨b, o, none⟩) n l) {k : Nat} (hk : k < l.length) : b < w.heap.size ∧ P b ∧ ∃ V, V.length = sz ∧ w.rangeAt b (o + k * sz) V ∧ R w P V l[k] := by
  have hl := h.len
  obtain ⟨b', o', cs, e, hb, hp, hr, he⟩ := h.cel (by omega)
  injection e with e
  injection e with e1 e2
  subst e1 e2
  obtain ⟨X, V, Z, rfl, hX, hV, hR, _⟩ := he.at_ hk
  refine ⟨hb, hp, V, hV, fun j v hj => ?_, hR⟩
  have hj' := (List.getElem?_eq_some_iff.1 hj).1
  have := hr (k * sz + j) v (by rw [← hX, List.getElem?_append_right (Nat.le_add_right _ _), Nat.add_sub_cancel_left, List.getElem?_append_left hj']; exact hj)
  rwa [Nat.add_assoc]
end
/-- v is a row of the call's own that reads as l; what its elements lead to lies in blocks of P, and not in the row. -/
structure OwnRw {α : Type} (T : TypeId) (sz : Nat) (R : Reads α) (w0 : World) (P : Nat → Prop) (v : Value) (n : Nat) (l : List α) (wr : World) : Prop where
  row : ∃ cs, wr.ownsRow w0.heap.size T sz v n cs ∧ Each sz (R wr fun b => P b ∧ some b ≠ v.ownBlock) cs l ∧ ∀ u ∈ cs, u.oneCell' = true
  len : l.length = n
  bel : Below w0.heap.size w0 wr
section
variable {α : Type} {T : TypeId} {sz : Nat} {R : Reads α} {w0 wr w1 : World} {P Q : Nat → Prop} {v : Value} {n : Nat} {l : List α}
theorem OwnRw.new (h : OwnRw T sz R w0 P v n l wr) : ∀ k, v.ownBlock = some k → w0.heap.size ≤ k ∧ k < wr.heap.size := by
  obtain ⟨cs, h1, _⟩ := h.row
  exact h1.lt
theorem OwnRw.later (M : Mono R) (h : OwnRw T sz R w0 P v n l wr) (g : Below wr.heap.size wr w1) : OwnRw T sz R w0 P v n l w1 := by
  obtain ⟨cs, h1, h2, h3⟩ := h.row
  exact ⟨⟨cs, ownsRow_later h1 g, h2.imp fun V x hx => M.keep hx (Kept.of_below g), h3⟩, h.len, h.bel.trans (g.mono h.bel.size)⟩
theorem OwnRw.weak (M : Mono R) (h : OwnRw T sz R w0 P v n l wr) (q : ∀ b, P b → b < wr.heap.size → Q b) : OwnRw T sz R w0 Q v n l wr := by
  obtain ⟨cs, h1, h2, h3⟩ := h.row
  exact ⟨⟨cs, h1, h2.imp fun V x hx => M.weak hx fun b hb hl => ⟨q b hb.1 hl, hb.2⟩, h3⟩, h.len, h.bel⟩
theorem OwnRw.shape (h : OwnRw T sz R w0 P v n l wr) : ∃ A c, v = .slice A n c ∧ n ≤ c := by
  obtain ⟨cs, h1, _⟩ := h.row
  rcases h1.2 with ⟨rfl, rfl⟩ | ⟨g, cap, cur, rfl, _, _, hc, _⟩
  · exact ⟨none, 0, rfl, Nat.le_refl _⟩
  · exact ⟨_, _, rfl, hc⟩
theorem OwnRw.none_ {w : World} (b : Below w0.heap.size w0 w) : OwnRw T sz R w0 P (.slice none 0 0) 0 [] w := ⟨⟨[], World.ownsRow_nil _ _ _ _, .nil, fun u hu => by cases hu⟩, rfl, b⟩
theorem OwnRw.made {w : World} (b : Below w0.heap.size w0 w) : OwnRw T sz R w0 P (.slice (some ⟨w.heap.size, 0, none⟩) 0 0) 0 [] (w.alloc (.cells #[] T)) :=
  ⟨⟨[], World.ownsRow_made w #[] 0 b.size (by unfold maxLen; omega) (by simp), .nil, fun u hu => by cases hu⟩, rfl, b.alloc b.size _⟩
/-- Read as any slice is. -/
theorem OwnRw.reads (M : Mono R) {A : Option Addr} {c : Nat} (h : OwnRw T sz R w0 P (.slice A n c) n l wr) : Rows wr (fun b => P b ∨ A.map (·.block) = some b) sz R A n l := by
  obtain ⟨cs, h1, h2, h3⟩ := h.row
  refine ⟨h.len, fun hn => ?_⟩
  obtain ⟨g, cap, hv, _, hlt⟩ := h1.form hn
  have hA : A = some ⟨g, 0, none⟩ := by injection hv
  subst hA
  refine ⟨g, 0, cs, rfl, hlt, .inr rfl, fun j u hj => ?_, h2.imp fun V x hx => M.weak hx fun b hb _ => .inl hb.1⟩
  have := h1.cells (g := g) rfl j u hj
  have e : (⟨g, 0, none⟩ : Addr).add j = ⟨g, 0 + j, none⟩ := by unfold Addr.add; split <;> simp_all
  rwa [e] at this
end
/-- What is asked of a slice's type. -/
structure ElemT (S T : TypeId) (sz by_ : Nat) (Z : Value) : Prop where
  und : Tryd.prog.underlying S = some (.slice T)
  info : (Tryd.prog.info? T).map (fun i => (i.zero, i.size, i.bytes)) = some (some Z, sz, by_)
  zs : Z.cells.size = sz
  pos : 0 < sz
section
variable {α : Type} {S T : TypeId} {sz by_ : Nat} {Z : Value} {R : Reads α} {w0 w : World} {P : Nat → Prop} {v : Value} {n m c : Nat} {l k : List α} {A : Option Addr}
set_option maxRecDepth 100000 in
theorem run_appRw (E : ElemT S T sz by_ Z) (M : Mono R) (ty : TypeId) (hown : OwnRw T sz R w0 P v n l w) {cs : List Value} (hk : k.length = m) (hcs : 0 < m → ∃ b o, A = some ⟨b, o, none⟩ ∧ w.rangeAt b o cs) (he : Each sz (R w fun b => P b ∧ some b ≠ v.ownBlock ∧ b < w.heap.size) cs k) (h1 : ∀ u ∈ cs, u.oneCell' = true) (hlen : n + m ≤ 1073741824) (hby : (n + m) * by_ ≤ 140737488355328) :
    ∃ A' c' w', (Builtin.append_ #[S, S] ty #[v, .slice A m c]).run Tryd.prog w = .ok (.slice A' (n + m) c') w' ∧ OwnRw T sz R w0 P (.slice A' (n + m) c') (n + m) (l ++ k) w' ∧ w.grownBy w' v.ownBlock ∧ n + m ≤ c' ∧ (Value.ownBlock (.slice A' (n + m) c') = v.ownBlock ∨ Value.ownBlock (.slice A' (n + m) c') = some w.heap.size) := by
  obtain ⟨i0, hi, hz0, hz1, hz2⟩ := info_parts E.info
  obtain ⟨ds, hd, hed, hd1⟩ := hown.row
  by_cases hm : 0 < m
  · obtain ⟨b, o, rfl, hr⟩ := hcs hm
    obtain ⟨v', w', a1, a2, a3, _, a5⟩ := run_append_own_at (P := Tryd.prog) w w0.heap.size S ty T i0 Z sz by_ E.und hi hz0 hz1 hz2 E.zs E.pos v n ds hd ⟨b, o, none⟩ m c cs (by rw [he.len, hk]) (fun j u hj => by
      have e : (⟨b, o, none⟩ : Addr).add j = ⟨b, o + j, none⟩ := by unfold Addr.add; split <;> simp_all
      rw [e]; exact hr j u hj) h1 (by unfold maxLen; omega) hby hown.bel.size
    have ne : ∀ x, (P x ∧ some x ≠ v.ownBlock) → x < w.heap.size → P x ∧ some x ≠ v'.ownBlock := fun x hx hlt => ⟨hx.1, by
      rcases a5 with q | q
      · rw [q]; exact hx.2
      · rw [q]; intro e; injection e with e; omega⟩
    have O : OwnRw T sz R w0 P v' (n + m) (l ++ k) w' := by
      refine ⟨⟨ds ++ cs, a2, Each.app (hed.imp fun V x hx => ?_) (he.imp fun V x hx => ?_), fun u hu => ?_⟩, by rw [List.length_append, hown.len, hk], hown.bel.grown a3 hown.bel.size (fun q hq => (hown.new q hq).1)⟩
      · have y := M.weak hx (Q := fun b => (P b ∧ some b ≠ v'.ownBlock) ∧ some b ≠ v.ownBlock) fun b hb hlt => ⟨ne b hb hlt, hb.2⟩
        exact M.weak (M.keep y (Kept.of_grown a3 fun b hb => hb.2)) fun b hb _ => hb.1
      · have y := M.weak hx (Q := fun b => (P b ∧ some b ≠ v'.ownBlock) ∧ some b ≠ v.ownBlock) fun b hb hlt => ⟨ne b ⟨hb.1, hb.2.1⟩ hb.2.2, hb.2.1⟩
        exact M.weak (M.keep y (Kept.of_grown a3 fun b hb => hb.2)) fun b hb _ => hb.1
      · rcases List.mem_append.1 hu with h | h
        · exact hd1 u h
        · exact h1 u h
    obtain ⟨A', c', rfl, hc⟩ := O.shape
    exact ⟨A', c', w', a1, O, a3, hc, a5⟩
  · obtain rfl : m = 0 := by omega
    obtain rfl : k = [] := List.eq_nil_of_length_eq_zero hk
    rw [List.append_nil, Nat.add_zero]
    obtain ⟨A1, c1, rfl, hc1⟩ := hown.shape
    refine ⟨A1, c1, w, ?_, hown, World.grownBy.refl _ _, hc1, .inl rfl⟩
    have hc : ∀ x : Addr, (loadCells x 0).run Tryd.prog w = .ok #[] w := fun x => by simpa using run_loadCells_list (P := Tryd.prog) w x [] (by simp)
    rcases hd.2 with ⟨e, _⟩ | ⟨q, cap, cur, e, _, _, hnc, _⟩
    · injection e with e1 e2 e3
      subst e1 e2 e3
      cases A <;> simp [Builtin.append_, run_underlying E.und, sizeOf, typeInfo, hi, Builtin.lenOf, Builtin.firstCells, hc]
    · injection e with e1 e2 e3
      subst e1 e3
      cases A <;> simp [Builtin.append_, run_underlying E.und, sizeOf, typeInfo, hi, Builtin.lenOf, Builtin.firstCells, hnc, storeCells, hc]
end
section
variable {α : Type} {S T : TypeId} {sz by_ : Nat} {Z : Value} {R : Reads α} {w0 w : World} {P : Nat → Prop} {v : Value} {n m c N : Nat} {l k : List α} {A : Option Addr} {ops : Array Oper} {rest : List Oper} {o : Oper} {a : Act} {Q : Exit → Act → World → Prop} {K : Act → World → Prop} {d : Option Tmp}
set_option maxRecDepth 100000 in
theorem wp_appRw (E : ElemT S T sz by_ Z) (M : Mono R) (hd : o.dst = d) (s x : Operand) (ho : o.op = .call { callee := .builtin .append, args := #[s, x], argTypes := #[S, S] })
    (hs : a.eval s = v) (hown : OwnRw T sz R w0 P v n l w) (hx : a.eval x = .slice A m c) {cs : List Value} (hk : k.length = m) (hcs : 0 < m → ∃ b o, A = some ⟨b, o, none⟩ ∧ w.rangeAt b o cs) (he : Each sz (R w fun b => P b ∧ some b ≠ v.ownBlock ∧ b < w.heap.size) cs k) (h1 : ∀ u ∈ cs, u.oneCell' = true) (hN : n + m = N) (hlen : n + m ≤ 1073741824) (hby : (n + m) * by_ ≤ 140737488355328)
    (hw : ∀ A' c' w', N ≤ c' → OwnRw T sz R w0 P (.slice A' N c') N (l ++ k) w' → w.grownBy w' v.ownBlock → (Value.ownBlock (.slice A' N c') = v.ownBlock ∨ Value.ownBlock (.slice A' N c') = some w.heap.size) → K (a.put d (.slice A' N c')) w') : o.wp Tryd.prog a w K Q := by
  subst hd hN
  obtain ⟨A', c', w', r1, r2, r3, r4, r5⟩ := run_appRw (c := c) E M o.type hown hk hcs he h1 hlen hby
  have e := hw A' c' w' r4 r2 r3 r5
  unfold Oper.wp
  simp [execOp, ho, resolve, invoke, builtin, hs, hx, r1, Result.andThen]
  exact e
theorem wpList_appRw (E : ElemT S T sz by_ Z) (M : Mono R) (hgd : o.guard = none) (s x : Operand) (ho : o.op = .call { callee := .builtin .append, args := #[s, x], argTypes := #[S, S] })
    (hs : a.eval s = v) (hown : OwnRw T sz R w0 P v n l w) (hx : a.eval x = .slice A m c) {cs : List Value} (hk : k.length = m) (hcs : 0 < m → ∃ b o, A = some ⟨b, o, none⟩ ∧ w.rangeAt b o cs) (he : Each sz (R w fun b => P b ∧ some b ≠ v.ownBlock ∧ b < w.heap.size) cs k) (h1 : ∀ u ∈ cs, u.oneCell' = true) (hN : n + m = N) (hlen : n + m ≤ 1073741824) (hby : (n + m) * by_ ≤ 140737488355328)
    (hw : ∀ A' c' w', N ≤ c' → OwnRw T sz R w0 P (.slice A' N c') N (l ++ k) w' → w.grownBy w' v.ownBlock → (Value.ownBlock (.slice A' N c') = v.ownBlock ∨ Value.ownBlock (.slice A' N c') = some w.heap.size) → wpList Tryd.prog ops Q rest (a.put o.dst (.slice A' N c')) w') : wpList Tryd.prog ops Q (o :: rest) a w :=
  wpList_plain hgd fun _ hK => wp_appRw E M rfl s x ho hs hown hx hk hcs he h1 hN hlen hby fun A' c' w' h1 h2 h3 h4 => hK _ _ (hw A' c' w' h1 h2 h3 h4)
end
end Go.Proofs.YtbdjcbdnhaddoaaDoor

/- How transactions lie in memory. No condition. -/
namespace Go.Proofs.YtbdjcbdnhaddoaaDoor
open Go.RowKit

/-- An element that is a slice of bytes. -/
def BsR : Reads (List Nat) := fun w P V x => ∃ B m c, V = [.slice B m c] ∧ m ≤ c ∧ m ≤ 140737488351232 ∧ BsP w P B m x
theorem bsR_mono : Mono BsR := ⟨fun ⟨B, m, c, e, h1, h2, h3⟩ g => ⟨B, m, c, e, h1, h2, h3.keep g⟩, fun ⟨B, m, c, e, h1, h2, h3⟩ q => ⟨B, m, c, e, h1, h2, h3.weak q⟩⟩
def inV (h : List Nat) (n : Nat) (As : Option Addr) (ns cs q : Nat) (Aw : Option Addr) (nw cw : Nat) : List Value :=
  vals h ++ [.int .u32 (n : Int), .slice As ns cs, .int .u32 (q : Int), .slice Aw nw cw]
theorem inV_len {h : List Nat} (hh : h.length = 32) (n : Nat) (As : Option Addr) (ns cs q : Nat) (Aw : Option Addr) (nw cw : Nat) : (inV h n As ns cs q Aw nw cw).length = 36 := by simp [inV, vals_length, hh]
theorem inV_one (h : List Nat) (n : Nat) (As : Option Addr) (ns cs q : Nat) (Aw : Option Addr) (nw cw : Nat) : ∀ u ∈ inV h n As ns cs q Aw nw cw, u.oneCell' = true := fun u hu => by
  rcases List.mem_append.1 hu with k | k
  · exact vals_one _ u k
  · simp only [List.mem_cons, List.not_mem_nil, or_false] at k
    rcases k with rfl | rfl | rfl | rfl <;> rfl
structure InS (w : World) (P : Nat → Prop) (i : InD) (As : Option Addr) (ns cs : Nat) (Aw : Option Addr) (nw cw : Nat) : Prop where
  ok : i.Ok
  s1 : ns ≤ cs
  s2 : ns ≤ 140737488351232
  s : BsP w P As ns i.s
  w1 : nw ≤ cw
  w2 : nw ≤ 140737488351232
  w : Rows w P 1 BsR Aw nw i.w
/-- An element that is an input. -/
def InR : Reads InD := fun w P V i => ∃ As ns cs Aw nw cw, V = inV i.h i.n As ns cs i.q Aw nw cw ∧ InS w P i As ns cs Aw nw cw
theorem InS.keep {w w' : World} {P : Nat → Prop} {i : InD} {As : Option Addr} {ns cs : Nat} {Aw : Option Addr} {nw cw : Nat} (h : InS w P i As ns cs Aw nw cw) (g : Kept P w w') : InS w' P i As ns cs Aw nw cw :=
  ⟨h.ok, h.s1, h.s2, h.s.keep g, h.w1, h.w2, h.w.keep bsR_mono g⟩
theorem InS.weak {w : World} {P Q : Nat → Prop} {i : InD} {As : Option Addr} {ns cs : Nat} {Aw : Option Addr} {nw cw : Nat} (h : InS w P i As ns cs Aw nw cw) (q : ∀ b, P b → b < w.heap.size → Q b) : InS w Q i As ns cs Aw nw cw :=
  ⟨h.ok, h.s1, h.s2, h.s.weak q, h.w1, h.w2, h.w.weak bsR_mono q⟩
theorem inR_mono : Mono InR := ⟨fun ⟨As, ns, cs, Aw, nw, cw, e, h⟩ g => ⟨As, ns, cs, Aw, nw, cw, e, h.keep g⟩, fun ⟨As, ns, cs, Aw, nw, cw, e, h⟩ q => ⟨As, ns, cs, Aw, nw, cw, e, h.weak q⟩⟩
def outV (v : Nat) (As : Option Addr) (ns cs : Nat) : List Value := [.int .u64 (v : Int), .slice As ns cs]
structure OutSl (w : World) (P : Nat → Prop) (o : OutD) (As : Option Addr) (ns cs : Nat) : Prop where
  ok : o.Ok
  s1 : ns ≤ cs
  s2 : ns ≤ 140737488351232
  s : BsP w P As ns o.s
def OutR : Reads OutD := fun w P V o => ∃ As ns cs, V = outV o.v As ns cs ∧ OutSl w P o As ns cs
theorem OutSl.keep {w w' : World} {P : Nat → Prop} {o : OutD} {As : Option Addr} {ns cs : Nat} (h : OutSl w P o As ns cs) (g : Kept P w w') : OutSl w' P o As ns cs := ⟨h.ok, h.s1, h.s2, h.s.keep g⟩
theorem OutSl.weak {w : World} {P Q : Nat → Prop} {o : OutD} {As : Option Addr} {ns cs : Nat} (h : OutSl w P o As ns cs) (q : ∀ b, P b → b < w.heap.size → Q b) : OutSl w Q o As ns cs := ⟨h.ok, h.s1, h.s2, h.s.weak q⟩
theorem outR_mono : Mono OutR := ⟨fun ⟨As, ns, cs, e, h⟩ g => ⟨As, ns, cs, e, h.keep g⟩, fun ⟨As, ns, cs, e, h⟩ q => ⟨As, ns, cs, e, h.weak q⟩⟩
/-- A transaction as a value. -/
def txV (v : Nat) (Ai : Option Addr) (ni ci : Nat) (Ao : Option Addr) (no co l : Nat) : List Value := [.int .u32 (v : Int), .slice Ai ni ci, .slice Ao no co, .int .u32 (l : Int)]
/-- Where a transaction's lists lie. -/
structure TxR (w : World) (t : TxD) (Ai : Option Addr) (ni ci : Nat) (Ao : Option Addr) (no co : Nat) : Prop where
  ver : t.ver < 4294967296
  lock : t.lock < 4294967296
  i1 : ni ≤ ci
  i2 : ni ≤ 140737488351232
  ins : Rows w anyP 36 InR Ai ni t.ins
  o1 : no ≤ co
  o2 : no ≤ 140737488351232
  outs : Rows w anyP 2 OutR Ao no t.outs
section
variable {w w' : World} {t : TxD} {Ai : Option Addr} {ni ci : Nat} {Ao : Option Addr} {no co : Nat}
theorem TxR.later (h : TxR w t Ai ni ci Ao no co) (g : Below w.heap.size w w') : TxR w' t Ai ni ci Ao no co := ⟨h.ver, h.lock, h.i1, h.i2, h.ins.later inR_mono g, h.o1, h.o2, h.outs.later outR_mono g⟩
theorem Rows.all {α : Type} {w : World} {P : Nat → Prop} {sz : Nat} {R : Reads α} {A : Option Addr} {n : Nat} {l : List α} (h : Rows w P sz R A n l) {G : α → Prop} (hG : ∀ V x, R w P V x → G x) : ∀ x ∈ l, G x := by
  intro x hx
  have hn : 0 < n := by rw [← h.len]; exact List.length_pos_of_mem hx
  obtain ⟨b, o, cs, e, _, _, r, he⟩ := h.cel hn
  clear e h r
  induction he with
  | nil => cases hx
  | cons h1 h2 _ ih =>
    rcases List.mem_cons.1 hx with rfl | hx
    · exact hG _ _ h2
    · exact ih hx
theorem TxR.ok (h : TxR w t Ai ni ci Ao no co) : t.Ok := ⟨h.ver, h.ins.all fun _ _ ⟨_, _, _, _, _, _, _, q⟩ => q.ok, h.outs.all fun _ _ ⟨_, _, _, _, q⟩ => q.ok, h.lock⟩
theorem TxR.fit (h : TxR w t Ai ni ci Ao no co) : t.Fit :=
  ⟨by have := h.ins.len; have := h.i2; omega, by have := h.outs.len; have := h.o2; omega,
   h.ins.all fun _ _ ⟨_, _, _, _, _, _, _, q⟩ => ⟨by have := q.s.bs.len; have := q.s2; omega, by have := q.w.len; have := q.w2; omega, q.w.all fun _ _ ⟨_, _, _, _, _, k, b⟩ => by have := b.bs.len; omega⟩,
   h.outs.all fun _ _ ⟨_, _, _, _, q⟩ => by have := q.s.bs.len; have := q.s2; omega⟩
end
/-- How many bytes a transaction has at most, but for the counts. -/
def weigh (t : TxD) : Nat := (t.ins.map fun i => 41 + i.s.length + (i.w.map fun x => 1 + x.length).sum).sum + (t.outs.map fun o => 9 + o.s.length).sum
theorem itemS_len (b : List Nat) : (itemS b).length ≤ 9 + b.length := by
  unfold itemS
  rw [List.length_append]
  have := countS_len b.length
  omega
theorem flat_len {α : Type} {f : α → List Nat} {g : α → Nat} {c : Nat} : ∀ (l : List α), (∀ x ∈ l, (f x).length ≤ c * g x) → (l.flatMap f).length ≤ c * (l.map g).sum
  | [], _ => by simp
  | x :: l, h => by
    rw [List.flatMap_cons, List.length_append, List.map_cons, List.sum_cons, Nat.mul_add]
    have h1 := h x (by simp)
    have h2 := flat_len l fun y hy => h y (by simp [hy])
    omega
theorem items_len (l : List (List Nat)) : (itemsS l).length ≤ 9 * (l.map fun x => 1 + x.length).sum := flat_len l fun x _ => by have := itemS_len x; omega
theorem put_len {t : TxD} (k : t.Ok) : (putS t).length ≤ 9 * weigh t + 64 ∧ (bareS t).length ≤ 9 * weigh t + 64 := by
  have hi : ∀ l : List InD, (∀ i ∈ l, i.Ok) → (insS l).length + (witS l).length ≤ 9 * (l.map fun i => 41 + i.s.length + (i.w.map fun x => 1 + x.length).sum).sum := by
    intro l
    unfold insS witS
    induction l with
    | nil => intro _; simp
    | cons i l ih =>
      intro hk
      rw [List.flatMap_cons, List.flatMap_cons, List.map_cons, List.sum_cons, Nat.mul_add, List.length_append, List.length_append]
      have h0 := ih fun j hj => hk j (List.mem_cons_of_mem _ hj)
      have h1 := itemS_len i.s
      have h2 := items_len i.w
      have h3 := countS_len i.w.length
      have h4 : (inS i).length = i.h.length + (4 + ((itemS i.s).length + 4)) := by unfold inS; rw [List.length_append, List.length_append, List.length_append, low_len, low_len]
      have h5 := (hk i List.mem_cons_self).h
      have h6 : (witS1 i).length = (countS i.w.length).length + (itemsS i.w).length := by unfold witS1; rw [List.length_append]
      omega
  have ho : (outsS t.outs).length ≤ 9 * (t.outs.map fun o => 9 + o.s.length).sum := flat_len t.outs fun o _ => by
    have := itemS_len o.s
    unfold outS
    rw [List.length_append, low_len]
    omega
  have h1 := hi t.ins k.ins
  have h2 := countS_len t.ins.length
  have h3 := countS_len t.outs.length
  have hb : (bodyS t).length = (countS t.ins.length).length + ((insS t.ins).length + ((countS t.outs.length).length + (outsS t.outs).length)) := by unfold bodyS; rw [List.length_append, List.length_append, List.length_append]
  have hr : (bareS t).length = 4 + ((bodyS t).length + 4) := by unfold bareS; rw [List.length_append, List.length_append, low_len, low_len]
  have hw : weigh t = (t.ins.map fun i => 41 + i.s.length + (i.w.map fun x => 1 + x.length).sum).sum + (t.outs.map fun o => 9 + o.s.length).sum := rfl
  refine ⟨?_, by omega⟩
  unfold putS
  split
  · rw [List.length_append, low_len, List.length_cons, List.length_cons, List.length_append, List.length_append, low_len]
    omega
  · omega
end Go.Proofs.YtbdjcbdnhaddoaaDoor

/- Appends onto a row of bytes, and what else turns. No condition. -/
namespace Go.Proofs.YtbdjcbdnhaddoaaDoor
open Go.RowKit

/-- Of what lay there nothing has turned but the row v; the row is v' now. -/
structure Grew (w w' : World) (v v' : Value) : Prop where
  g : w.grownBy w' v.ownBlock
  ne : v'.ownBlock = v.ownBlock ∨ ∀ b, v'.ownBlock = some b → w.heap.size ≤ b
theorem Grew.refl (w : World) (v : Value) : Grew w w v v := ⟨World.grownBy.refl _ _, .inl rfl⟩
theorem Grew.trans {w w1 w2 : World} {v v1 v2 : Value} (G : Grew w w1 v v1) (H : Grew w1 w2 v1 v2) : Grew w w2 v v2 := by
  have gs := G.g.size
  refine ⟨⟨H.g.os.trans G.g.os, H.g.tape.trans G.g.tape, H.g.output.trans G.g.output, Nat.le_trans gs H.g.size, fun k hk hne => ?_⟩, ?_⟩
  · rw [H.g.block k (Nat.lt_of_lt_of_le hk gs) ?_, G.g.block k hk hne]
    rcases G.ne with e | e
    · rw [e]; exact hne
    · intro q
      have := e k q.symm
      omega
  · rcases H.ne with e | e
    · rcases G.ne with e2 | e2
      · exact .inl (e.trans e2)
      · exact .inr fun b hb => e2 b (by rw [← e]; exact hb)
    · exact .inr fun b hb => Nat.le_trans gs (e b hb)
theorem Grew.below {w w1 : World} (v : Value) (g : Below w.heap.size w w1) : Grew w w1 v v := ⟨⟨g.os, g.tape, g.output, g.size, fun k hk _ => g.block k hk⟩, .inl rfl⟩
theorem Grew.kept {w w1 : World} {v v' : Value} {P : Nat → Prop} (G : Grew w w1 v v') (h : ∀ b, P b → some b ≠ v.ownBlock) : Kept P w w1 := Kept.of_grown G.g h
/-- A box that is not the row. -/
theorem Grew.box {w w1 : World} {v v' : Value} {b : Nat} {T : TypeId} {vs : List Value} (G : Grew w w1 v v') (h : Ro w b T vs) (hne : some b ≠ v.ownBlock) : Ro w1 b T vs := h.far G.g hne
/-- append of bytes, and in which block it lies. -/
theorem run_appB {w0 w : World} {v : Value} {n : Nat} {L M : List Nat} {A : Option Addr} {m c : Nat} (ty : TypeId) (hown : Own w0 v n L w) (hr : Bs w A m M) (hlen : n + m ≤ 1099511627776) :
    ∃ A' N c' w', (Builtin.append_ #[29, 29] ty #[v, .slice A m c]).run Tryd.prog w = .ok (.slice A' N c') w' ∧ N ≤ c' ∧ Own w0 (.slice A' N c') N (L ++ M) w' ∧ Grew w w' v (.slice A' N c') := by
  obtain ⟨i0, hi, hz0, hz1, hz2⟩ := info_parts Tryd.infoByte
  have hsz := hown.size
  have key : ∀ v' w', (Builtin.append_ #[29, 29] ty #[v, .slice A m c]).run Tryd.prog w = .ok v' w' → Own w0 v' (n + m) (L ++ M) w' → w.grownBy w' v.ownBlock → (v'.ownBlock = v.ownBlock ∨ v'.ownBlock = some w.heap.size) → ∃ A' N c' w', (Builtin.append_ #[29, 29] ty #[v, .slice A m c]).run Tryd.prog w = .ok (.slice A' N c') w' ∧ N ≤ c' ∧ Own w0 (.slice A' N c') N (L ++ M) w' ∧ Grew w w' v (.slice A' N c') := by
    intro v' w' h1 h2 h3 h4
    obtain ⟨A', c', rfl, hc⟩ := h2.shape
    refine ⟨A', n + m, c', w', h1, hc, h2, h3, ?_⟩
    rcases h4 with h4 | h4
    · exact .inl h4
    · exact .inr fun b hb => by rw [h4] at hb; injection hb with hb; omega
  rcases A with _ | ad
  · obtain rfl : m = 0 := by
      rcases Nat.eq_zero_or_pos m with h0 | h0
      · exact h0
      · obtain ⟨_, e, _⟩ := hr.cel h0
        cases e
    obtain rfl : M = [] := List.eq_nil_of_length_eq_zero hr.len
    have hrun : (Builtin.append_ #[29, 29] ty #[v, .slice none 0 c]).run Tryd.prog w = .ok v w := by
      rcases hown.row.2 with ⟨rfl, rfl⟩ | ⟨g, cap, cur, rfl, _, _, hnc, _⟩
      · simp [Builtin.append_, run_underlying Tryd.underlying29, sizeOf, typeInfo, hi, Builtin.lenOf, Builtin.firstCells]
      · simp [Builtin.append_, run_underlying Tryd.underlying29, sizeOf, typeInfo, hi, Builtin.lenOf, Builtin.firstCells, hnc, storeCells]
    exact key v w hrun (by simpa using hown) (World.grownBy.refl _ _) (.inl rfl)
  · obtain ⟨v', w', h1, h2, h3, _, h5⟩ := run_append_own_at (P := Tryd.prog) w w0.heap.size 29 ty 5 i0 (.int .u8 0) 1 1 Tryd.underlying29 hi hz0 hz1 hz2 rfl (by decide) v n (vals L) hown.row ad m c (vals M) (by rw [vals_length, hr.len]; omega) hr.cells (vals_one M) (by unfold maxLen; omega) (by omega) hsz
    exact key v' w' h1 (hown.grown hr.byt h2 h3) h3 h5
section
variable {w0 w : World} {ops : Array Oper} {rest : List Oper} {o : Oper} {a : Act} {Q : Exit → Act → World → Prop} {K : Act → World → Prop} {d : Option Tmp}
theorem wp_appB (hd : o.dst = d) (s x : Operand) (ho : o.op = .call { callee := .builtin .append, args := #[s, x], argTypes := #[29, 29] })
    {v : Value} {n m c : Nat} {L M : List Nat} {A : Option Addr} (hs : a.eval s = v) (hown : Own w0 v n L w) (hx : a.eval x = .slice A m c) (hr : Bs w A m M) (hlen : n + m ≤ 1099511627776)
    (hw : ∀ A' N c' w', N ≤ c' → Own w0 (.slice A' N c') N (L ++ M) w' → Grew w w' v (.slice A' N c') → K (a.put d (.slice A' N c')) w') : o.wp Tryd.prog a w K Q := by
  subst hd
  obtain ⟨A', N, c', w', r1, r2, r3, r4⟩ := run_appB (c := c) o.type hown hr hlen
  have e := hw A' N c' w' r2 r3 r4
  unfold Oper.wp
  simp [execOp, ho, resolve, invoke, builtin, hs, hx, r1, Result.andThen]
  exact e
theorem wpList_appB (hgd : o.guard = none) (s x : Operand) (ho : o.op = .call { callee := .builtin .append, args := #[s, x], argTypes := #[29, 29] })
    {v : Value} {n m c : Nat} {L M : List Nat} {A : Option Addr} (hs : a.eval s = v) (hown : Own w0 v n L w) (hx : a.eval x = .slice A m c) (hr : Bs w A m M) (hlen : n + m ≤ 1099511627776)
    (hw : ∀ A' N c' w', N ≤ c' → Own w0 (.slice A' N c') N (L ++ M) w' → Grew w w' v (.slice A' N c') → wpList Tryd.prog ops Q rest (a.put o.dst (.slice A' N c')) w') : wpList Tryd.prog ops Q (o :: rest) a w :=
  wpList_plain hgd fun _ hK => wp_appB rfl s x ho hs hown hx hr hlen fun A' N c' w' h1 h2 h3 => hK _ _ (hw A' N c' w' h1 h2 h3)
end
/-- What a function returns that puts M behind the row v, which reads as L. -/
def Puts (w0 w : World) (v : Value) (L M : List Nat) (e : Ending) (w' : World) : Prop := ∃ A N c, e = .returned (.slice A N c) ∧ N ≤ c ∧ Own w0 (.slice A N c) N (L ++ M) w' ∧ Grew w w' v (.slice A N c)

theorem low_snoc (x : Nat) : ∀ k, low (k + 1) x = low k x ++ [x / 256 ^ k % 256] := by
  intro k
  induction k generalizing x with
  | zero => simp [low]
  | succ k ih =>
    rw [low, ih (x / 256), low, List.cons_append, Nat.div_div_eq_div_mul, Nat.pow_succ, Nat.mul_comm 256]
/-- A number that is moved down byte by byte. -/
structure DownAt (n k : Nat) (x : Int) : Prop where
  eq : x = ((n / 256 ^ k : Nat) : Int)
  lo : 0 ≤ x
  hi : x < 18446744073709551616
theorem downAt_start {n : Nat} (h : n < 18446744073709551616) : DownAt n 0 (n : Int) := ⟨by rw [Nat.pow_zero, Nat.div_one], by omega, by omega⟩
theorem DownAt.step {n k : Nat} {x : Int} (h : DownAt n k x) : DownAt n (k + 1) (x / 256) := by
  have e : x / 256 = ((n / 256 ^ (k + 1) : Nat) : Int) := by
    rw [h.eq, Nat.pow_succ, ← Nat.div_div_eq_div_mul]
    exact (Int.natCast_ediv _ _).symm
  have h0 := h.lo
  have h1 := h.hi
  exact ⟨e, by omega, by omega⟩
theorem DownAt.byte {n k : Nat} {x : Int} (h : DownAt n k x) : x % 256 = ((n / 256 ^ k % 256 : Nat) : Int) := by
  rw [h.eq]; exact (Int.natCast_emod _ _).symm
end Go.Proofs.YtbdjcbdnhaddoaaDoor

/- Numbers, counts and items as bytes: the program's, and the reference's. No condition but bounds on lengths. -/
namespace Go.Proofs.YtbdjcbdnhaddoaaDoor
open Go.RowKit

set_option maxRecDepth 100000 in
set_option maxHeartbeats 4000000 in
theorem putNumber_any {w0 w : World} {A : Option Addr} {n c : Nat} {L : List Nat} (x : Nat) (hx : x < 18446744073709551616) (size : Nat) (hs : size ≤ 8) (hL : L.length ≤ 1000000000000) (hown : Own w0 (.slice A n c) n L w) :
    Calls Tryd.prog 49 #[.slice A n c, .int .u64 (x : Nat), .int .i64 (size : Nat)] w (Puts w0 w (.slice A n c) L (low size x)) := by
  obtain ⟨m, hm⟩ : ∃ m : Int, m = (x : Int) := ⟨_, rfl⟩
  have D0 := Lib.hid (downAt_start hx)
  have O0 := Lib.hid hown
  rw [← hm] at D0 ⊢
  clear hm hown
  go_enter Tryd.func49, Tryd.ntmps49
  go_wp2_with fail
  go_loopw [0, 1, 8] (fun v q i wr => ∃ (k : Nat) (z : Int) (B : Option Addr) (N d : Nat), k ≤ size ∧ i = .int .i64 (k : Nat) ∧ q = .int .u64 z ∧ DownAt x k z ∧ v = .slice B N d ∧ N ≤ d ∧ Own w0 (.slice B N d) N (L ++ low k x) wr ∧ Grew w wr (.slice A n c) (.slice B N d)) (fun _ _ i _ => size - (intOf i).toNat)
  case atStart =>
    obtain ⟨A', c', e, hc⟩ := O0.out.shape
    injection e with e1 e2 e3
    exact ⟨0, m, A, n, c, by omega, rfl, rfl, D0.out, rfl, by omega, by rw [low, List.append_nil]; exact O0.out, Grew.refl _ _⟩
  case round =>
    clear O0 D0
    obtain ⟨k, z, B, N, d, hk, rfl, rfl, D, rfl, hd, O, G⟩ := hrel
    have HD := Lib.hid D
    have q0 := D.lo
    have q1 := D.hi
    have HO := Lib.hid O
    have HG := Lib.hid G
    have LN := O.len
    rw [List.length_append, low_len] at LN
    clear D O G
    by_cases hlt : k < size
    · have t1 : decide ((k : Int) < (size : Int)) = true := decide_eq_true (by omega)
      obtain ⟨b, hb1, hb2, hb3⟩ : ∃ b : Nat, (b : Int) = z % 256 ∧ b < 256 ∧ b = x / 256 ^ k % 256 := ⟨x / 256 ^ k % 256, HD.out.byte.symm, Nat.mod_lt _ (by decide), rfl⟩
      have HB3 := Lib.hid hb3
      have W1 : IntKind.u8.wrap (z % 256) = (b : Int) := by rw [IntKind.wrap_u8]; omega
      rw [← hb1] at W1
      have hb4 : z % 256 = (b : Int) := hb1.symm
      have bl := (Below.refl wr.heap.size wr).alloc (Nat.le_refl _) (.cells #[.int .u8 (b : Int)] 5)
      have O1 := Lib.hid (HO.out.later bl)
      have G1 := Lib.hid (HG.out.trans (Grew.below (.slice B N d) bl))
      have BL := Lib.hid (Bs.lit1 wr hb2)
      clear hb1 hb3 HO HG bl
      go_wp2_with (at_builtin; refine wpList_appB rfl (.tmp 10) (.tmp 13) rfl rfl O1.out rfl BL.out (by omega) ?_)
      intro A2 N2 c2 w2 hc2 O2 G2
      have O3 := Lib.hid O2
      have G3 := Lib.hid (G1.out.trans G2)
      clear O2 G2 O1 G1 BL
      go_wp2_with fail
      exact ⟨⟨k + 1, z / 256, A2, N2, c2, by omega, by go_num, rfl, HD.out.step, rfl, hc2, by rw [low_snoc, ← HB3.out]; exact O3.out, G3.out⟩, by simp [intOf]; omega⟩
    · have t1 : decide ((k : Int) < (size : Int)) = false := decide_eq_false (by omega)
      obtain rfl : k = size := by omega
      go_wp2_with fail
      go_ret
      exact ⟨B, N, d, rfl, hd, HO.out, HG.out⟩

set_option maxRecDepth 100000 in
set_option maxHeartbeats 4000000 in
theorem refLow_any (x : Nat) (hx : x < 18446744073709551616) (size : Nat) (hs : size ≤ 8) (w : World) :
    Calls Tryd.prog 32 #[.int .u64 (x : Nat), .int .i64 (size : Nat)] w (GivesB w (low size x)) := by
  have HX := Lib.hid hx
  go_enter Tryd.func32, Tryd.ntmps32
  go_wp2_with fail
  go_loopw [5, 6] (fun v i wr => ∃ (k : Nat) (B : Option Addr) (N d : Nat), k ≤ size ∧ i = .int .i64 (k : Nat) ∧ v = .slice B N d ∧ N ≤ d ∧ Own w (.slice B N d) N (low k x) wr) (fun _ i _ => size - (intOf i).toNat)
  case atStart => exact ⟨0, none, 0, 0, by omega, rfl, rfl, Nat.le_refl _, ⟨World.ownsRow_nil _ _ _ _, allB_nil, Below.refl _ _⟩⟩
  case round =>
    obtain ⟨k, B, N, d, hk, rfl, rfl, hd, O⟩ := hrel
    have HO := Lib.hid O
    have LN := O.len
    rw [low_len] at LN
    subst LN
    clear O
    by_cases hlt : k < size
    · have t1 : decide ((k : Int) < (size : Int)) = true := decide_eq_true (by omega)
      have m1 : IntKind.i64.wrap (8 * (k : Int)) = ((8 * k : Nat) : Int) := by rw [IntWalk.i64_in _ (by omega)]; omega
      obtain ⟨b, hb1, hb2, hb3⟩ : ∃ b : Nat, (b : Int) = (x : Int) / 2 ^ (8 * k) % 256 ∧ b < 256 ∧ b = x / 256 ^ k % 256 := ⟨x / 256 ^ k % 256, by
        have e : (256 : Nat) ^ k = 2 ^ (8 * k) := by rw [Nat.pow_mul]
        rw [e, Int.natCast_emod, Int.natCast_ediv, Int.natCast_pow]; rfl, Nat.mod_lt _ (by decide), rfl⟩
      have HB3 := Lib.hid hb3
      have hb4 : (x : Int) / 2 ^ (8 * k) % 256 = (b : Int) := hb1.symm
      have W1 : IntKind.u8.wrap ((x : Int) / 2 ^ (8 * k)) = (b : Int) := by rw [IntKind.wrap_u8, hb4]
      have bl := (Below.refl wr.heap.size wr).alloc (Nat.le_refl _) (.cells #[.int .u8 (b : Int)] 5)
      have O1 := Lib.hid (HO.out.later bl)
      have BL := Lib.hid (Bs.lit1 wr hb2)
      clear hb1 hb3 HO bl
      go_wp2_with (at_builtin; refine wpList_appB rfl (.tmp 12) (.tmp 19) rfl rfl O1.out rfl BL.out (by omega) ?_)
      intro A2 N2 c2 w2 hc2 O2 G2
      have O3 := Lib.hid O2
      clear O2 G2 O1 BL
      go_wp2_with fail
      exact ⟨⟨k + 1, A2, N2, c2, by omega, by go_num, rfl, hc2, by rw [low_snoc, ← HB3.out]; exact O3.out⟩, by simp [intOf]; omega⟩
    · have t1 : decide ((k : Int) < (size : Int)) = false := decide_eq_false (by omega)
      obtain rfl : k = size := by omega
      go_wp2_with fail
      go_ret
      exact ⟨B, _, d, rfl, hd, HO.out⟩

theorem countS_1 {n : Nat} (h : n < 253) : countS n = [n] := if_pos h
theorem countS_2 {n : Nat} (h : ¬ n < 253) (k : n < 65536) : countS n = [253] ++ low 2 n := by unfold countS; rw [if_neg h, if_pos k]; rfl
theorem countS_4 {n : Nat} (h : ¬ n < 65536) (k : n < 4294967296) : countS n = [254] ++ low 4 n := by unfold countS; rw [if_neg (by omega), if_neg h, if_pos k]; rfl
theorem countS_8 {n : Nat} (h : ¬ n < 4294967296) : countS n = [255] ++ low 8 n := by unfold countS; rw [if_neg (by omega), if_neg (by omega), if_neg h]; rfl

set_option maxRecDepth 100000 in
set_option maxHeartbeats 4000000 in
theorem putCount_any {w0 w : World} {A : Option Addr} {n c : Nat} {L : List Nat} (k : Nat) (hk : k ≤ 140737488355328) (hL : L.length ≤ 999999999000) (hown : Own w0 (.slice A n c) n L w) :
    Calls Tryd.prog 50 #[.slice A n c, .int .i64 (k : Nat)] w (Puts w0 w (.slice A n c) L (countS k)) := by
  have O0 := Lib.hid hown
  have LN := hown.len
  have hn : n ≤ 999999999000 := by omega
  have wk : IntKind.u64.wrap (k : Int) = (k : Int) := by rw [IntKind.wrap_u64]; omega
  have CS1 := Lib.hid (fun h => countS_1 (n := k) h)
  clear hown LN
  go_enter Tryd.func50, Tryd.ntmps50
  by_cases h1 : k < 253
  · have t1 : decide ((k : Int) < 253) = true := decide_eq_true (by omega)
    have CS := Lib.hid (countS_1 h1)
    have w8 : IntKind.u8.wrap (k : Int) = (k : Int) := by rw [IntKind.wrap_u8]; omega
    have m8 : (k : Int) % 256 = (k : Int) := by omega
    have bl := (Below.refl w.heap.size w).alloc (Nat.le_refl _) (.cells #[.int .u8 (k : Int)] 5)
    have O1 := Lib.hid (O0.out.later bl)
    have G1 := Lib.hid (Grew.below (.slice A n c) bl)
    have BL := Lib.hid (Bs.lit1 w (x := k) (by omega))
    clear bl O0
    go_wp2_with (at_builtin; refine wpList_appB rfl (.tmp 11) (.tmp 14) rfl rfl O1.out rfl BL.out (by omega) ?_)
    intro A2 N2 c2 w2 hc2 O2 G2
    have O3 := Lib.hid O2
    have G3 := Lib.hid (G1.out.trans G2)
    clear O2 G2 O1 G1 BL
    go_wp2_with fail
    go_ret
    exact ⟨A2, N2, c2, rfl, hc2, by rw [CS.out]; exact O3.out, G3.out⟩
  have t1 : decide ((k : Int) < 253) = false := decide_eq_false (by omega)
  by_cases h2 : k < 65536
  · have t2 : decide ((k : Int) ≤ 65535) = true := decide_eq_true (by omega)
    have t3 : decide ((65535 : Int) < (k : Int)) = false := decide_eq_false (by omega)
    have CS := Lib.hid (countS_2 h1 h2)
    have bl := (Below.refl w.heap.size w).alloc (Nat.le_refl _) (.cells #[.int .u8 253] 5)
    have O1 := Lib.hid (O0.out.later bl)
    have G1 := Lib.hid (Grew.below (.slice A n c) bl)
    have BL := Lib.hid (Bs.lit1 w (x := 253) (by decide))
    clear bl O0
    go_wp2_with (at_builtin; refine wpList_appB rfl (.tmp 19) (.tmp 20) rfl rfl O1.out rfl BL.out (by omega) ?_)
    intro A2 N2 c2 w2 hc2 O2 G2
    have G3 := Lib.hid (G1.out.trans G2)
    have CN := Lib.hid (putNumber_any k (by omega) 2 (by decide) (by rw [List.length_append]; simp; omega) O2)
    clear O2 G2 O1 G1 BL
    go_wp2_with fail
    refine CN.out.mono ?_
    rintro e w3 ⟨A3, N3, c3, rfl, hc3, O3, G4⟩
    have O4 := Lib.hid O3
    have G5 := Lib.hid (G3.out.trans G4)
    clear O3 G4 CN G3
    go_wp2_with fail
    go_ret
    exact ⟨A3, N3, c3, rfl, hc3, by rw [CS.out]; have := O4.out; rw [List.append_assoc] at this; exact this, G5.out⟩
  have t2 : decide ((k : Int) ≤ 65535) = false := decide_eq_false (by omega)
  have t3 : decide ((65535 : Int) < (k : Int)) = true := decide_eq_true (by omega)
  by_cases h3 : k < 4294967296
  · have t4 : decide ((k : Int) ≤ 4294967295) = true := decide_eq_true (by omega)
    have t5 : decide ((4294967295 : Int) < (k : Int)) = false := decide_eq_false (by omega)
    have CS := Lib.hid (countS_4 h2 h3)
    have bl := (Below.refl w.heap.size w).alloc (Nat.le_refl _) (.cells #[.int .u8 254] 5)
    have O1 := Lib.hid (O0.out.later bl)
    have G1 := Lib.hid (Grew.below (.slice A n c) bl)
    have BL := Lib.hid (Bs.lit1 w (x := 254) (by decide))
    clear bl O0
    go_wp2_with (at_builtin; refine wpList_appB rfl (.tmp 27) (.tmp 28) rfl rfl O1.out rfl BL.out (by omega) ?_)
    intro A2 N2 c2 w2 hc2 O2 G2
    have G3 := Lib.hid (G1.out.trans G2)
    have CN := Lib.hid (putNumber_any k (by omega) 4 (by decide) (by rw [List.length_append]; simp; omega) O2)
    clear O2 G2 O1 G1 BL
    go_wp2_with fail
    refine CN.out.mono ?_
    rintro e w3 ⟨A3, N3, c3, rfl, hc3, O3, G4⟩
    have O4 := Lib.hid O3
    have G5 := Lib.hid (G3.out.trans G4)
    clear O3 G4 CN G3
    go_wp2_with fail
    go_ret
    exact ⟨A3, N3, c3, rfl, hc3, by rw [CS.out]; have := O4.out; rw [List.append_assoc] at this; exact this, G5.out⟩
  · have t4 : decide ((k : Int) ≤ 4294967295) = false := decide_eq_false (by omega)
    have t5 : decide ((4294967295 : Int) < (k : Int)) = true := decide_eq_true (by omega)
    have CS := Lib.hid (countS_8 h3)
    have bl := (Below.refl w.heap.size w).alloc (Nat.le_refl _) (.cells #[.int .u8 255] 5)
    have O1 := Lib.hid (O0.out.later bl)
    have G1 := Lib.hid (Grew.below (.slice A n c) bl)
    have BL := Lib.hid (Bs.lit1 w (x := 255) (by decide))
    clear bl O0
    go_wp2_with (at_builtin; refine wpList_appB rfl (.tmp 32) (.tmp 33) rfl rfl O1.out rfl BL.out (by omega) ?_)
    intro A2 N2 c2 w2 hc2 O2 G2
    have G3 := Lib.hid (G1.out.trans G2)
    have CN := Lib.hid (putNumber_any k (by omega) 8 (by decide) (by rw [List.length_append]; simp; omega) O2)
    clear O2 G2 O1 G1 BL
    go_wp2_with fail
    refine CN.out.mono ?_
    rintro e w3 ⟨A3, N3, c3, rfl, hc3, O3, G4⟩
    have O4 := Lib.hid O3
    have G5 := Lib.hid (G3.out.trans G4)
    clear O3 G4 CN G3
    go_wp2_with fail
    go_ret
    exact ⟨A3, N3, c3, rfl, hc3, by rw [CS.out]; have := O4.out; rw [List.append_assoc] at this; exact this, G5.out⟩

set_option maxRecDepth 100000 in
set_option maxHeartbeats 4000000 in
theorem putItem_any {w0 w : World} {A B : Option Addr} {n c m d : Nat} {L M : List Nat} (hm : m ≤ 140737488355328) (hL : L.length ≤ 999999998000) (hM : M.length ≤ 80000000000) (hown : Own w0 (.slice A n c) n L w) (hB : Bs w B m M) (hne : ∀ a, B = some a → 0 < m → some a.block ≠ Value.ownBlock (.slice A n c)) :
    Calls Tryd.prog 51 #[.slice A n c, .slice B m d] w (Puts w0 w (.slice A n c) L (itemS M)) := by
  have LM := hB.len
  have HB := Lib.hid hB
  have CN := Lib.hid (putCount_any m hm (by omega) hown)
  have hm2 : m ≤ 80000000000 := by omega
  have CL := Lib.hid (countS_len m)
  have IS : Hid (itemS M = countS m ++ M) := Lib.hid (by unfold itemS; rw [LM])
  clear hown hB LM
  go_enter Tryd.func51, Tryd.ntmps51
  go_wp2_with fail
  refine CN.out.mono ?_
  rintro e w1 ⟨A1, N1, c1, rfl, hc1, O1, G1⟩
  have B1 : Bs w1 B m M := by
    refine ⟨HB.out.len, HB.out.byt, fun hn => ?_⟩
    obtain ⟨a, ea, hb, hc⟩ := HB.out.cel hn
    refine ⟨a, ea, Nat.lt_of_lt_of_le hb G1.g.size, fun k hk => ?_⟩
    rw [← hc k hk]
    unfold World.cell?
    rw [G1.g.block _ (by rw [add_block]; exact hb) (by rw [add_block]; exact hne a ea hn)]
  have HB1 := Lib.hid B1
  have LN := O1.len
  have hN1 : N1 ≤ 999999999000 := by rw [List.length_append] at LN; have := CL.out; omega
  have HO := Lib.hid O1
  have HG := Lib.hid G1
  clear O1 G1 B1 LN CN hne
  go_wp2_with (at_builtin; refine wpList_appB rfl (.tmp 8) (.tmp 9) rfl rfl HO.out rfl HB1.out (by omega) ?_)
  intro A2 N2 c2 w2 hc2 O2 G2
  have O3 := Lib.hid O2
  have G3 := Lib.hid (HG.out.trans G2)
  clear O2 G2 HO HG HB1
  go_wp2_with fail
  go_ret
  exact ⟨A2, N2, c2, rfl, hc2, by rw [IS.out]; first | exact O3.out | (rw [← List.append_assoc]; exact O3.out), G3.out⟩
end Go.Proofs.YtbdjcbdnhaddoaaDoor

/- Counts and items as bytes, as the reference says them. No condition but bounds on lengths. -/
namespace Go.Proofs.YtbdjcbdnhaddoaaDoor
open Go.RowKit

set_option maxRecDepth 100000 in
set_option maxHeartbeats 4000000 in
theorem refCount_any (k : Nat) (hk : k ≤ 140737488355328) (w : World) :
    Calls Tryd.prog 34 #[.int .i64 (k : Nat)] w (GivesB w (countS k)) := by
  have wk : IntKind.u64.wrap (k : Int) = (k : Int) := by rw [IntKind.wrap_u64]; omega
  have HK := Lib.hid hk
  go_enter Tryd.func34, Tryd.ntmps34
  by_cases h1 : k < 253
  · have t1 : decide ((k : Int) < 253) = true := decide_eq_true (by omega)
    have CS := Lib.hid (countS_1 h1)
    have w8 : IntKind.u8.wrap (k : Int) = (k : Int) := by rw [IntKind.wrap_u8]; omega
    have m8 : (k : Int) % 256 = (k : Int) := by omega
    have bl := (Below.refl w.heap.size w).alloc (Nat.le_refl _) (.cells #[.int .u8 (k : Int)] 5)
    have OL := Lib.hid (Own.full bl [k] (allB_one (by omega)) 1 (by decide) #[.int .u8 (k : Int)] rfl (Nat.le_refl _) rfl (Nat.le_refl _) (heap_alloc_new w _))
    clear bl
    go_wp2_with fail
    go_ret
    exact ⟨_, 1, 1, rfl, Nat.le_refl _, by rw [CS.out]; exact OL.out⟩
  have t1 : decide ((k : Int) < 253) = false := decide_eq_false (by omega)
  by_cases h2 : k < 65536
  · have t2 : decide ((k : Int) < 65536) = true := decide_eq_true (by omega)
    have CS := Lib.hid (countS_2 h1 h2)
    have bl := (Below.refl w.heap.size w).alloc (Nat.le_refl _) (.cells #[.int .u8 253] 5)
    have OL := Lib.hid (Own.full bl [253] (allB_one (by decide)) 1 (by decide) #[.int .u8 253] rfl (Nat.le_refl _) rfl (Nat.le_refl _) (heap_alloc_new w _))
    have CN := Lib.hid (refLow_any k (by omega) 2 (by decide) (w.alloc (.cells #[.int .u8 253] 5)))
    clear bl
    go_wp2_with fail
    refine CN.out.mono ?_
    rintro e w2 ⟨A2, n2, c2, rfl, hc2, O2⟩
    have O3 := Lib.hid (OL.out.later O2.bel)
    have R2 := Lib.hid O2.reads
    have hn2 : n2 ≤ 8 := by have := O2.len; rw [low_len] at this; omega
    clear O2 OL CN
    go_wp2_with (at_builtin; refine wpList_appB rfl (.tmp 13) (.tmp 15) rfl rfl O3.out rfl R2.out (by simp; omega) ?_)
    intro A3 N3 c3 w3 hc3 O4 G4
    have O5 := Lib.hid O4
    clear O4 G4 O3 R2
    go_wp2_with fail
    go_ret
    exact ⟨A3, N3, c3, rfl, hc3, by rw [CS.out]; exact O5.out⟩
  have t2 : decide ((k : Int) < 65536) = false := decide_eq_false (by omega)
  by_cases h3 : k < 4294967296
  · have t4 : decide ((k : Int) < 4294967296) = true := decide_eq_true (by omega)
    have CS := Lib.hid (countS_4 h2 h3)
    have bl := (Below.refl w.heap.size w).alloc (Nat.le_refl _) (.cells #[.int .u8 254] 5)
    have OL := Lib.hid (Own.full bl [254] (allB_one (by decide)) 1 (by decide) #[.int .u8 254] rfl (Nat.le_refl _) rfl (Nat.le_refl _) (heap_alloc_new w _))
    have CN := Lib.hid (refLow_any k (by omega) 4 (by decide) (w.alloc (.cells #[.int .u8 254] 5)))
    clear bl
    go_wp2_with fail
    refine CN.out.mono ?_
    rintro e w2 ⟨A2, n2, c2, rfl, hc2, O2⟩
    have O3 := Lib.hid (OL.out.later O2.bel)
    have R2 := Lib.hid O2.reads
    have hn2 : n2 ≤ 8 := by have := O2.len; rw [low_len] at this; omega
    clear O2 OL CN
    go_wp2_with (at_builtin; refine wpList_appB rfl (.tmp 19) (.tmp 21) rfl rfl O3.out rfl R2.out (by simp; omega) ?_)
    intro A3 N3 c3 w3 hc3 O4 G4
    have O5 := Lib.hid O4
    clear O4 G4 O3 R2
    go_wp2_with fail
    go_ret
    exact ⟨A3, N3, c3, rfl, hc3, by rw [CS.out]; exact O5.out⟩
  · have t4 : decide ((k : Int) < 4294967296) = false := decide_eq_false (by omega)
    have CS := Lib.hid (countS_8 h3)
    have bl := (Below.refl w.heap.size w).alloc (Nat.le_refl _) (.cells #[.int .u8 255] 5)
    have OL := Lib.hid (Own.full bl [255] (allB_one (by decide)) 1 (by decide) #[.int .u8 255] rfl (Nat.le_refl _) rfl (Nat.le_refl _) (heap_alloc_new w _))
    have CN := Lib.hid (refLow_any k (by omega) 8 (by decide) (w.alloc (.cells #[.int .u8 255] 5)))
    clear bl
    go_wp2_with fail
    refine CN.out.mono ?_
    rintro e w2 ⟨A2, n2, c2, rfl, hc2, O2⟩
    have O3 := Lib.hid (OL.out.later O2.bel)
    have R2 := Lib.hid O2.reads
    have hn2 : n2 ≤ 8 := by have := O2.len; rw [low_len] at this; omega
    clear O2 OL CN
    go_wp2_with (at_builtin; refine wpList_appB rfl (.tmp 23) (.tmp 25) rfl rfl O3.out rfl R2.out (by simp; omega) ?_)
    intro A3 N3 c3 w3 hc3 O4 G4
    have O5 := Lib.hid O4
    clear O4 G4 O3 R2
    go_wp2_with fail
    go_ret
    exact ⟨A3, N3, c3, rfl, hc3, by rw [CS.out]; exact O5.out⟩

set_option maxRecDepth 100000 in
set_option maxHeartbeats 4000000 in
theorem refItem_any {B : Option Addr} {m d : Nat} {M : List Nat} (w : World) (hm : m ≤ 80000000000) (hB : Bs w B m M) :
    Calls Tryd.prog 35 #[.slice B m d] w (GivesB w (itemS M)) := by
  have LM := hB.len
  have HB := Lib.hid hB
  have CN := Lib.hid (refCount_any m (by omega) w)
  have CL := Lib.hid (countS_len m)
  have IS : Hid (itemS M = countS m ++ M) := Lib.hid (by unfold itemS; rw [LM])
  clear hB LM
  go_enter Tryd.func35, Tryd.ntmps35
  go_wp2_with fail
  refine CN.out.mono ?_
  rintro e w1 ⟨A1, N1, c1, rfl, hc1, O1⟩
  have HB1 := Lib.hid (HB.out.later O1.bel)
  have hN1 : N1 ≤ 9 := by have := O1.len; have := CL.out; omega
  have HO := Lib.hid O1
  clear O1 CN
  go_wp2_with (at_builtin; refine wpList_appB rfl (.tmp 5) (.tmp 6) rfl rfl HO.out rfl HB1.out (by omega) ?_)
  intro A2 N2 c2 w2 hc2 O2 G2
  have O3 := Lib.hid O2
  clear O2 G2 HO HB1
  go_wp2_with fail
  go_ret
  exact ⟨A2, N2, c2, rfl, hc2, by rw [IS.out]; exact O3.out⟩
end Go.Proofs.YtbdjcbdnhaddoaaDoor

/- Whether a transaction has a Witness: the program's, and the reference's. No condition. -/
namespace Go.Proofs.YtbdjcbdnhaddoaaDoor
open Go.RowKit

theorem rowIn : IsRow 56 36 := ⟨.inl ⟨_, Tryd.underlying56⟩, by kernel_rfl⟩
theorem rowOut : IsRow 46 2 := ⟨.inl ⟨_, Tryd.underlying46⟩, by kernel_rfl⟩
theorem rowTx : IsRow 26 4 := ⟨.inl ⟨_, Tryd.underlying26⟩, by kernel_rfl⟩
def sawI (i : InD) : Bool := decide (0 < i.w.length)
theorem seen_any (t : TxD) : seen t = t.ins.any sawI := rfl
theorem add_at (b o i : Nat) : (⟨b, o, none⟩ : Addr).add i = ⟨b, o + i, none⟩ := by
  unfold Addr.add
  split
  · simp_all
  · rfl
theorem getL {α : Type} {l : List α} {k n : Nat} (hl : l.length = n) (hk : k < n) : ∃ x, l[k]? = some x ∧ l.take (k + 1) = l.take k ++ [x] ∧ x ∈ l := by
  have h : k < l.length := by omega
  exact ⟨l[k], List.getElem?_eq_getElem h, List.take_succ_eq_append_getElem h, List.getElem_mem h⟩
/-- The k-th element of a slice, as it lies. -/
theorem Rows.nth {α : Type} {w : World} {P : Nat → Prop} {sz : Nat} {R : Reads α} {b o n k : Nat} {l : List α} {x : α} (h : Rows w P sz R (some ⟨b, o, none⟩) n l) (hk : l[k]? = some x) : b < w.heap.size ∧ ∃ V, V.length = sz ∧ w.rangeAt b (o + k * sz) V ∧ R w P V x := by
  obtain ⟨hk1, hk2⟩ := List.getElem?_eq_some_iff.1 hk
  obtain ⟨h1, _, V, h2, h3, h4⟩ := h.at_ hk1
  rw [hk2] at h4
  exact ⟨h1, V, h2, h3, h4⟩
theorem inV_at (h : List Nat) (hh : h.length = 32) (n : Nat) (As : Option Addr) (ns cs q : Nat) (Aw : Option Addr) (nw cw : Nat) : (inV h n As ns cs q Aw nw cw)[32]? = some (.int .u32 (n : Int)) ∧ (inV h n As ns cs q Aw nw cw)[33]? = some (.slice As ns cs) ∧ (inV h n As ns cs q Aw nw cw)[34]? = some (.int .u32 (q : Int)) ∧ (inV h n As ns cs q Aw nw cw)[35]? = some (.slice Aw nw cw) := by
  unfold inV
  have e : (vals h).length = 32 := by rw [vals_length, hh]
  refine ⟨?_, ?_, ?_, ?_⟩ <;> rw [List.getElem?_append_right (by omega), e] <;> rfl

set_option maxRecDepth 100000 in
set_option maxHeartbeats 4000000 in
theorem saw1_any {h : List Nat} (hh : h.length = 32) (n : Nat) (As : Option Addr) (ns cs q : Nat) (Aw : Option Addr) (nw cw : Nat) (w : World) :
    Calls Tryd.prog 53 #[.agg (inV h n As ns cs q Aw nw cw).toArray] w fun e w' => e = .returned (.bool (decide (0 < nw))) ∧ Below w.heap.size w w' := by
  have R1 := Lib.hid (Ro.new w 56 (inV h n As ns cs q Aw nw cw))
  have c1 := R1.out.cell (inV_at h hh n As ns cs q Aw nw cw).2.2.2
  have B1 := Lib.hid ((Below.refl w.heap.size w).alloc (Nat.le_refl _) (.cells (inV h n As ns cs q Aw nw cw).toArray 56))
  clear R1
  go_enter Tryd.func53, Tryd.ntmps53
  go_wp2_with fail
  go_ret
  exact ⟨rfl, B1.out⟩

set_option maxRecDepth 100000 in
set_option maxHeartbeats 4000000 in
theorem indexW_any {A : Option Addr} {n c : Nat} {l : List InD} (w : World) (hn : n ≤ 140737488351232) (hL : Rows w anyP 36 InR A n l) :
    Calls Tryd.prog 62 #[.slice A n c, .func (.func 53) #[] #[]] w fun e w' => ∃ r : Int, e = .returned (.int .i64 r) ∧ (decide ((0 : Int) ≤ r) = l.any sawI) ∧ Below w.heap.size w w' := by
  have HL := Lib.hid hL
  have HN := Lib.hid hL.len
  clear hL
  go_enter Tryd.func62, Tryd.ntmps62
  go_wp2_with fail
  go_loopw [5, 8] (fun _ i wr => ∃ k : Nat, k ≤ n ∧ i = .int .i64 (k : Nat) ∧ (l.take k).any sawI = false ∧ Below w.heap.size w wr) (fun _ i _ => n - (intOf i).toNat)
  case atStart => exact ⟨0, Nat.zero_le _, rfl, rfl, Below.refl _ _⟩
  case round =>
    obtain ⟨k, hk, rfl, hf, bel⟩ := hrel
    have HF := Lib.hid hf
    have HB := Lib.hid bel
    clear hf bel
    by_cases hlt : k < n
    · have t1 : decide ((k : Int) < (n : Int)) = true := decide_eq_true (by omega)
      obtain ⟨i, hi, htk, him⟩ := getL HN.out hlt
      have HT := Lib.hid htk
      have HM := Lib.hid him
      obtain ⟨b, o, _, rfl, _⟩ := HL.out.cel (by omega)
      have ad := add_at b o
      obtain ⟨hb, V, hV, hr, As, ns, cs, Aw, nw, cw, rfl, hI⟩ := (HL.out.later inR_mono HB.out).nth hi
      have HR := Lib.hid hr
      have HV := Lib.hid hV
      have SW : Hid (sawI i = decide (0 < nw)) := Lib.hid (by unfold sawI; rw [hI.w.len])
      have CW := Lib.hid (saw1_any hI.ok.h i.n As ns cs i.q Aw nw cw wr)
      clear hi htk him hr hV hI
      obtain ⟨q, hq⟩ : ∃ q, decide (0 < nw) = q := ⟨_, rfl⟩
      rw [hq] at CW SW
      have HS := SW.out
      clear hq SW
      go_wp2_with (refine wpList_load_part rfl (.tmp 14) rfl rfl rowIn HR.out HV.out ?_)
      refine CW.out.mono ?_
      rintro e w1 ⟨rfl, hb1⟩
      have B1 := Lib.hid (HB.out.trans (hb1.mono HB.out.size))
      have HS1 := Lib.hid HS
      clear hb1 CW HR HV HS
      cases q with
      | true =>
        go_wp2_with fail
        go_ret
        exact ⟨(k : Int), rfl, by rw [decide_eq_true (by omega), List.any_eq_true.2 ⟨i, HM.out, HS1.out⟩], B1.out⟩
      | false =>
        go_wp2_with fail
        exact ⟨⟨k + 1, by omega, by go_num, by rw [HT.out, List.any_append, HF.out]; simp [HS1.out], B1.out⟩, by simp [intOf]; omega⟩
    · have t1 : decide ((k : Int) < (n : Int)) = false := decide_eq_false (by omega)
      obtain rfl : k = n := by omega
      go_wp2_with fail
      go_ret
      exact ⟨-1, rfl, by rw [List.take_of_length_le (by rw [HN.out]; exact Nat.le_refl _)] at HF; rw [HF.out]; rfl, HB.out⟩

set_option maxRecDepth 100000 in
set_option maxHeartbeats 4000000 in
theorem containsW_any {A : Option Addr} {n c : Nat} {l : List InD} (w : World) (hn : n ≤ 140737488351232) (hL : Rows w anyP 36 InR A n l) :
    Calls Tryd.prog 52 #[.slice A n c, .func (.func 53) #[] #[]] w fun e w' => e = .returned (.bool (l.any sawI)) ∧ Below w.heap.size w w' := by
  have ci := indexW_any (c := c) w hn hL
  obtain ⟨q, hq⟩ : ∃ q, l.any sawI = q := ⟨_, rfl⟩
  rw [hq] at ci ⊢
  have CI := Lib.hid ci
  clear hL ci hq
  go_enter Tryd.func52, Tryd.ntmps52
  go_wp2_with fail
  refine CI.out.mono ?_
  rintro e w1 ⟨r, rfl, hr, hb⟩
  have B1 := Lib.hid hb
  clear hb CI
  go_wp2_with fail
  go_ret
  exact ⟨rfl, B1.out⟩

set_option maxRecDepth 100000 in
set_option maxHeartbeats 4000000 in
theorem witnessed_any {t : TxD} {Ai : Option Addr} {ni ci : Nat} {Ao : Option Addr} {no co : Nat} (w : World) (hT : TxR w t Ai ni ci Ao no co) :
    Calls Tryd.prog 30 #[.agg (txV t.ver Ai ni ci Ao no co t.lock).toArray] w fun e w' => e = .returned (.bool (seen t)) ∧ Below w.heap.size w w' := by
  have HT := Lib.hid hT
  have B1 := Lib.hid ((Below.refl w.heap.size w).alloc (Nat.le_refl _) (.cells (txV t.ver Ai ni ci Ao no co t.lock).toArray 26))
  have CC := Lib.hid (containsW_any (c := ci) (w.alloc (.cells (txV t.ver Ai ni ci Ao no co t.lock).toArray 26)) hT.i2 (hT.ins.later inR_mono B1.out))
  rw [← seen_any t] at CC
  have R1 := Lib.hid (Ro.new w 26 (txV t.ver Ai ni ci Ao no co t.lock))
  have c1 := R1.out.cell (k := 1) (v := .slice Ai ni ci) rfl
  clear hT R1
  go_enter Tryd.func30, Tryd.ntmps30
  go_wp2_with fail
  refine CC.out.mono ?_
  rintro e w1 ⟨rfl, hb⟩
  have B2 := Lib.hid (B1.out.trans (hb.mono (by rw [World.size_alloc]; omega)))
  clear hb CC c1
  go_wp2_with fail
  go_ret
  exact ⟨rfl, B2.out⟩

set_option maxRecDepth 100000 in
set_option maxHeartbeats 4000000 in
theorem refSeen_any {t : TxD} {Ai : Option Addr} {ni ci : Nat} {Ao : Option Addr} {no co : Nat} (w : World) (hT : TxR w t Ai ni ci Ao no co) :
    Calls Tryd.prog 31 #[.agg (txV t.ver Ai ni ci Ao no co t.lock).toArray] w fun e w' => e = .returned (.bool (seen t)) ∧ Below w.heap.size w w' := by
  have HT := Lib.hid hT
  have HN := Lib.hid hT.ins.len
  have hn := hT.i2
  have B1 := Lib.hid ((Below.refl w.heap.size w).alloc (Nat.le_refl _) (.cells (txV t.ver Ai ni ci Ao no co t.lock).toArray 26))
  have R1 := Lib.hid (Ro.new w 26 (txV t.ver Ai ni ci Ao no co t.lock))
  have c0 := R1.out.cell (k := 1) (v := .slice Ai ni ci) rfl
  clear hT
  go_enter Tryd.func31, Tryd.ntmps31
  go_wp2_with fail
  clear c0
  go_loopw [3] (fun i wr => ∃ k : Nat, k ≤ ni ∧ i = .int .i64 (k : Nat) ∧ (t.ins.take k).any sawI = false ∧ Below (w.heap.size + 1) (w.alloc (.cells (txV t.ver Ai ni ci Ao no co t.lock).toArray 26)) wr) (fun i _ => ni - (intOf i).toNat)
  case atStart => exact ⟨0, Nat.zero_le _, rfl, rfl, Below.refl _ _⟩
  case round =>
    obtain ⟨k, hk, rfl, hf, bel⟩ := hrel
    have HF := Lib.hid hf
    have HB := Lib.hid bel
    have BW := Lib.hid (B1.out.trans (bel.mono (Nat.le_succ _)))
    have RX := Lib.hid (R1.out.later (by rw [World.size_alloc]; exact bel))
    have c1 := RX.out.cell (k := 1) (v := .slice Ai ni ci) rfl
    clear hf bel RX
    by_cases hlt : k < ni
    · have t1 : decide ((k : Int) < (ni : Int)) = true := decide_eq_true (by omega)
      obtain ⟨i, hi, htk, him⟩ := getL HN.out hlt
      have HTK := Lib.hid htk
      have HM := Lib.hid him
      obtain ⟨b, o, _, rfl, _⟩ := HT.out.ins.cel (by omega)
      have ad := add_at b o
      obtain ⟨hb, V, hV, hr, As, ns, cs, Aw, nw, cw, rfl, hI⟩ := (HT.out.ins.later inR_mono BW.out).nth hi
      have SW : Hid (sawI i = decide (0 < nw)) := Lib.hid (by unfold sawI; rw [hI.w.len])
      have c2 := hr 35 _ (inV_at i.h hI.ok.h i.n As ns cs i.q Aw nw cw).2.2.2
      obtain ⟨q, hq⟩ : ∃ q, decide (0 < nw) = q := ⟨_, rfl⟩
      rw [hq] at SW
      have HS := Lib.hid SW.out
      clear hi htk him hr hV hI SW
      cases q with
      | true =>
        go_wp2_with fail
        go_ret
        exact ⟨by rw [seen_any, List.any_eq_true.2 ⟨i, HM.out, HS.out⟩]; rfl, BW.out⟩
      | false =>
        go_wp2_with fail
        exact ⟨⟨k + 1, by omega, by go_num, by rw [HTK.out, List.any_append, HF.out]; simp [HS.out], HB.out⟩, by simp [intOf]; omega⟩
    · have t1 : decide ((k : Int) < (ni : Int)) = false := decide_eq_false (by omega)
      obtain rfl : k = ni := by omega
      go_wp2_with fail
      go_ret
      exact ⟨by rw [List.take_of_length_le (by rw [HN.out]; exact Nat.le_refl _)] at HF; rw [seen_any, HF.out]; rfl, BW.out⟩
end Go.Proofs.YtbdjcbdnhaddoaaDoor

/- Of putting: boxes beside the row, and how long what was put is. No condition. -/
namespace Go.Proofs.YtbdjcbdnhaddoaaDoor
open Go.RowKit

/-- A box beside the row. -/
structure Side (w : World) (v : Value) (q : Nat) (T : TypeId) (vs : List Value) : Prop where
  ro : Ro w q T vs
  ne : some q ≠ v.ownBlock
theorem Side.grew {w w' : World} {v v' : Value} {q : Nat} {T : TypeId} {vs : List Value} (h : Side w v q T vs) (G : Grew w w' v v') : Side w' v' q T vs :=
  ⟨h.ro.far G.g h.ne, by
    rcases G.ne with e | e
    · rw [e]; exact h.ne
    · intro x
      have := e q x.symm
      have := h.ro.lt
      omega⟩
theorem Own.old {w0 w : World} {v : Value} {n : Nat} {L : List Nat} (h : Own w0 v n L w) {b : Nat} (hb : b < w0.heap.size) : some b ≠ v.ownBlock := fun e => by
  have := (h.new b e.symm).1
  omega
theorem Own.lt_ {w0 w : World} {v : Value} {n : Nat} {L : List Nat} (h : Own w0 v n L w) {b : Nat} (hb : w.heap.size ≤ b) : some b ≠ v.ownBlock := fun e => by
  have := (h.new b e.symm).2
  omega
/-- A box just laid and filled. -/
theorem side_new {w0 w w' : World} {v : Value} {n : Nat} {L : List Nat} {T : TypeId} {vs : List Value} (h : Own w0 v n L w) (R : Ro w' w.heap.size T vs) : Side w' v w.heap.size T vs := ⟨R, h.lt_ (Nat.le_refl _)⟩
theorem box_store {wa wb : World} {o : Obj} (g : (wa.alloc o).grownBy wb (some wa.heap.size)) : Below wa.heap.size wa wb := ((Below.refl wa.heap.size wa).alloc (Nat.le_refl _) o).grown g (by simp) (fun q e => by injection e; omega)
theorem z32_len : (List.replicate 32 0).length = 32 := rfl
def zIn : List Value := inV (List.replicate 32 0) 0 none 0 0 0 none 0 0
theorem zIn_len : zIn.length = 36 := rfl
set_option maxRecDepth 100000 in
theorem zeroIn : ∀ w, (zeroValue 56).run Tryd.prog w = .ok (.agg zIn.toArray) w := fun w => by kernel_rfl
def zOut : List Value := outV 0 none 0 0
theorem zeroOut : ∀ w, (zeroValue 46).run Tryd.prog w = .ok (.agg zOut.toArray) w := fun w => by kernel_rfl
theorem outV_one (v : Nat) (As : Option Addr) (ns cs : Nat) : ∀ u ∈ outV v As ns cs, u.oneCell' = true := fun u hu => by
  simp only [outV, List.mem_cons, List.not_mem_nil, or_false] at hu
  rcases hu with rfl | rfl <;> rfl
/-- The hash's bytes in a box that holds an input. -/
theorem Side.hash {w : World} {v : Value} {q : Nat} {T : TypeId} {h : List Nat} {n : Nat} {As : Option Addr} {ns cs x : Nat} {Aw : Option Addr} {nw cw : Nat} (S : Side w v q T (inV h n As ns cs x Aw nw cw)) (hh : h.length = 32) (hb : AllB h) : Bs w (some ⟨q, 0, none⟩) 32 h :=
  ⟨hh, hb, fun _ => ⟨_, rfl, S.ro.lt, fun k hk => by
    rw [show (⟨q, 0, none⟩ : Addr).add k = ⟨q, 0 + k, none⟩ from add_at q 0 k, Nat.zero_add]
    exact S.ro.cell (by unfold inV; rw [List.getElem?_append_left (by rw [vals_length]; omega)]; exact vals_get h k (by omega))⟩⟩
theorem flat_take {α : Type} (f : α → List Nat) (l : List α) (k : Nat) : ((l.take k).flatMap f).length ≤ (l.flatMap f).length := by
  conv => rhs; rw [← List.take_append_drop k l, List.flatMap_append, List.length_append]
  omega
theorem flat_mem {α : Type} (f : α → List Nat) : ∀ {l : List α} {x : α}, x ∈ l → (f x).length ≤ (l.flatMap f).length
  | [], _, h => by cases h
  | y :: l, x, h => by
    rw [List.flatMap_cons, List.length_append]
    rcases List.mem_cons.1 h with rfl | h
    · omega
    · have := flat_mem f h
      omega
theorem inS_len {i : InD} (h : i.Ok) : (inS i).length = 40 + (itemS i.s).length := by
  unfold inS
  rw [List.length_append, List.length_append, List.length_append, low_len, low_len, h.h]
  omega
theorem item_le (b : List Nat) : b.length ≤ (itemS b).length := by unfold itemS; rw [List.length_append]; omega
/-- The parts' lengths. -/
structure Parts (t : TxD) (B : Nat) : Prop where
  ins : (insS t.ins).length ≤ B
  outs : (outsS t.outs).length ≤ B
  wit : (witS t.ins).length ≤ B
theorem parts_of {t : TxD} (k : t.Ok) : Parts t (9 * weigh t) := by
  have hi : ∀ l : List InD, (∀ i ∈ l, i.Ok) → (insS l).length + (witS l).length ≤ 9 * (l.map fun i => 41 + i.s.length + (i.w.map fun x => 1 + x.length).sum).sum := by
    intro l
    unfold insS witS
    induction l with
    | nil => intro _; simp
    | cons i l ih =>
      intro hk
      rw [List.flatMap_cons, List.flatMap_cons, List.map_cons, List.sum_cons, Nat.mul_add, List.length_append, List.length_append]
      have h0 := ih fun j hj => hk j (List.mem_cons_of_mem _ hj)
      have h1 := itemS_len i.s
      have h2 := items_len i.w
      have h3 := countS_len i.w.length
      have h4 := inS_len (hk i List.mem_cons_self)
      have h6 : (witS1 i).length = (countS i.w.length).length + (itemsS i.w).length := by unfold witS1; rw [List.length_append]
      omega
  have ho : (outsS t.outs).length ≤ 9 * (t.outs.map fun o => 9 + o.s.length).sum := flat_len t.outs fun o _ => by
    have := itemS_len o.s
    unfold outS
    rw [List.length_append, low_len]
    omega
  have h1 := hi t.ins k.ins
  have hw : weigh t = (t.ins.map fun i => 41 + i.s.length + (i.w.map fun x => 1 + x.length).sum).sum + (t.outs.map fun o => 9 + o.s.length).sum := rfl
  exact ⟨by omega, by omega, by omega⟩
/-- The bytes with or without the Witness. -/
def putB (t : TxD) (b : Bool) : List Nat := if b then low 4 t.ver ++ (0 :: 1 :: (bodyS t ++ (witS t.ins ++ low 4 t.lock))) else bareS t
theorem putB_seen (t : TxD) : putB t (seen t) = putS t := rfl
theorem insS_take {l : List InD} {k : Nat} {i : InD} (h : l.take (k + 1) = l.take k ++ [i]) : insS (l.take (k + 1)) = insS (l.take k) ++ inS i := by rw [h]; unfold insS; rw [List.flatMap_append]; simp
theorem outsS_take {l : List OutD} {k : Nat} {i : OutD} (h : l.take (k + 1) = l.take k ++ [i]) : outsS (l.take (k + 1)) = outsS (l.take k) ++ outS i := by rw [h]; unfold outsS; rw [List.flatMap_append]; simp
theorem witS_take {l : List InD} {k : Nat} {i : InD} (h : l.take (k + 1) = l.take k ++ [i]) : witS (l.take (k + 1)) = witS (l.take k) ++ witS1 i := by rw [h]; unfold witS; rw [List.flatMap_append]; simp
theorem itemsS_take {l : List (List Nat)} {k : Nat} {i : List Nat} (h : l.take (k + 1) = l.take k ++ [i]) : itemsS (l.take (k + 1)) = itemsS (l.take k) ++ itemS i := by rw [h]; unfold itemsS; rw [List.flatMap_append]; simp
theorem bs_lt {w : World} {A : Option Addr} {n : Nat} {L : List Nat} (h : Bs w A n L) (hn : 0 < n) {a : Addr} (e : A = some a) : a.block < w.heap.size := by
  obtain ⟨a', e', hb, _⟩ := h.cel hn
  rw [e] at e'
  injection e' with e'
  rw [e']; exact hb
theorem range_later {w w1 : World} {b o : Nat} {cs : List Value} (h : w.rangeAt b o cs) (hb : b < w.heap.size) (g : Below w.heap.size w w1) : w1.rangeAt b o cs := fun j v hj => by
  rw [← h j v hj]; exact g.cell hb
theorem mark_byt : AllB [0, 1] := fun x hx => by simp at hx; omega
end Go.Proofs.YtbdjcbdnhaddoaaDoor
