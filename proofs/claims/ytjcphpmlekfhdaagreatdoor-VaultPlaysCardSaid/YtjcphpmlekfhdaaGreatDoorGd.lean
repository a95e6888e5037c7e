/- The disk as lists and numbers: changes, files, calls. No memory. No condition. -/
import Derived.Test.YtjcphpmlekfhdaaGreatDoorGa
import Derived.Deep.RegionLaw
import Derived.BigRegion
import Derived.Great.BuildSlice
import Derived.Laws.Cover3

namespace Go.Proofs.YtjcphpmlekfhdaaGreatDoor

inductive Chg where
  | w (b : List Nat)
  | c (n : Nat)
def doC (b : List Nat) : Chg → List Nat
  | .w x => b ++ x
  | .c n => b.take n
def appl (b : List Nat) (l : List Chg) : List Nat := l.foldl doC b
def units : Chg → Nat
  | .w x => x.length
  | .c _ => 1
def firstC (n : Nat) : Chg → Chg
  | .w x => .w (x.take n)
  | .c _ => .w []
def loseL : Int → List Chg → List Chg
  | _, [] => []
  | k, c :: l => if k < (units c : Int) then [firstC (max k 0).toNat c] else c :: loseL (k - units c) l
/-- The reference's way. -/
def doneS : List Nat → List Chg → Int → List Nat
  | s, [], _ => s
  | s, c :: l, u => if u ≤ 0 then s else match c with
    | .c n => doneS (s.take n) l (u - 1)
    | .w x => doneS (s ++ x.take (min u.toNat x.length)) l (u - (min u.toNat x.length : Nat))

theorem appl_nil (b : List Nat) : appl b [] = b := rfl
theorem appl_cons (b : List Nat) (c : Chg) (l : List Chg) : appl b (c :: l) = appl (doC b c) l := rfl
theorem appl_app (b : List Nat) (l m : List Chg) : appl b (l ++ m) = appl (appl b l) m := by simp [appl]
theorem appl_one (b : List Nat) (c : Chg) : appl b [c] = doC b c := rfl
theorem doneS_zero : ∀ (s : List Nat) (l : List Chg) (u : Int), u ≤ 0 → doneS s l u = s
  | s, [], _, _ => rfl
  | s, c :: l, u, h => by unfold doneS; rw [if_pos h]
theorem appl_lose : ∀ (l : List Chg) (s : List Nat) (k : Int), appl s (loseL k l) = doneS s l k
  | [], s, k => rfl
  | c :: l, s, k => by
    unfold loseL
    by_cases h : k < (units c : Int)
    · rw [if_pos h, appl_one]
      unfold doneS
      by_cases h0 : k ≤ 0
      · rw [if_pos h0]
        have : (max k 0).toNat = 0 := by omega
        rw [this]
        cases c <;> simp [firstC, doC]
      · rw [if_neg h0]
        cases c with
        | c n => simp only [units] at h; omega
        | w x =>
          simp only [units] at h
          have e1 : min k.toNat x.length = k.toNat := by omega
          have e2 : (max k 0).toNat = k.toNat := by omega
          show s ++ x.take (max k 0).toNat = doneS (s ++ x.take (min k.toNat x.length)) l (k - (min k.toNat x.length : Nat))
          rw [e1, e2, doneS_zero _ _ _ (by omega)]
    · rw [if_neg h, appl_cons, appl_lose l]
      by_cases h0 : k ≤ 0
      · rw [doneS_zero _ (c :: l) _ h0]
        have hu : units c = 0 := by omega
        rw [doneS_zero _ _ _ (by omega)]
        cases c with
        | c n => simp [units] at hu
        | w x =>
          obtain rfl : x = [] := List.eq_nil_of_length_eq_zero hu
          simp [doC]
      · conv => rhs; unfold doneS
        rw [if_neg h0]
        cases c with
        | c n => rfl
        | w x =>
          simp only [units] at h ⊢
          have e1 : min k.toNat x.length = x.length := by omega
          show doneS (s ++ x) l (k - (x.length : Nat)) = doneS (s ++ x.take (min k.toNat x.length)) l (k - (min k.toNat x.length : Nat))
          rw [e1, List.take_length]
def usum : List Chg → Nat
  | [] => 0
  | c :: l => units c + usum l
theorem usum_app (l m : List Chg) : usum (l ++ m) = usum l + usum m := by
  induction l with
  | nil => simp [usum]
  | cons c l ih => simp only [List.cons_append, usum, ih]; omega
theorem lose_all : ∀ (l : List Chg) (k : Int), (usum l : Int) ≤ k → loseL k l = l
  | [], _, _ => rfl
  | c :: l, k, h => by
    simp only [usum] at h
    unfold loseL
    rw [if_neg (by omega), lose_all l _ (by omega)]

/-- Every change finds what it needs: a cut leaves no more than there is, and no write goes beyond M. -/
def Fits (M : Nat) : List Nat → List Chg → Prop
  | b, [] => b.length ≤ M
  | b, c :: l => b.length ≤ M ∧ (match c with | .c n => n ≤ b.length | .w _ => True) ∧ Fits M (doC b c) l
theorem Fits.start {M : Nat} {b : List Nat} : ∀ {l : List Chg}, Fits M b l → b.length ≤ M
  | [], h => h
  | _ :: _, h => h.1
theorem Fits.last {M : Nat} : ∀ {l : List Chg} {b : List Nat}, Fits M b l → (appl b l).length ≤ M
  | [], _, h => h
  | c :: l, b, h => Fits.last (l := l) (b := doC b c) h.2.2
theorem Fits.app {M : Nat} : ∀ {l : List Chg} {b : List Nat} {c : Chg}, Fits M b l → (match c with | .c n => n ≤ (appl b l).length | .w _ => True) → (appl b (l ++ [c])).length ≤ M → Fits M b (l ++ [c])
  | [], _, _, h, h1, h2 => ⟨h, h1, h2⟩
  | _ :: _, _, _, h, h1, h2 => ⟨h.1, h.2.1, Fits.app h.2.2 h1 h2⟩
theorem Fits.lose {M : Nat} : ∀ {l : List Chg} {b : List Nat} (k : Int), Fits M b l → Fits M b (loseL k l)
  | [], _, _, h => h
  | c :: l, b, k, h => by
    unfold loseL
    by_cases hk : k < (units c : Int)
    · rw [if_pos hk]
      refine ⟨h.1, by cases c <;> trivial, ?_⟩
      have := Fits.start h.2.2
      have h1 := h.1
      cases c with
      | c n => simpa [firstC, Fits, doC] using h1
      | w x =>
        simp only [firstC, Fits, doC, List.length_append, List.length_take] at this ⊢
        omega
    · rw [if_neg hk]
      exact ⟨h.1, h.2.1, Fits.lose _ h.2.2⟩

structure Fl where
  sure : List Nat
  loose : List Chg
def Fl.at (x : Fl) : List Nat := appl x.sure x.loose
def Fl.add (x : Fl) (c : Chg) : Fl := ⟨x.sure, x.loose ++ [c]⟩
def Fl.settle (x : Fl) : Fl := ⟨x.at, []⟩
def Fl.lose (x : Fl) (k : Int) : Fl := ⟨appl x.sure (loseL k x.loose), []⟩
theorem Fl.at_add (x : Fl) (c : Chg) : (x.add c).at = doC x.at c := by simp [Fl.at, Fl.add, appl_app, appl_one]

structure Dk where
  most : Nat
  off : Bool
  fuse : Int
  f : Fl
  g : Fl
def Dk.at (d : Dk) (i : Nat) : Fl := if i = 0 then d.f else d.g
def Dk.put (d : Dk) (i : Nat) (x : Fl) : Dk := if i = 0 then { d with f := x } else { d with g := x }
def Dk.room (d : Dk) : Nat := d.most - d.f.at.length - d.g.at.length
/-- The error that a call of a file gives ahead of all else: 8, 1, or 0. -/
def Dk.ask (d : Dk) (f : Int) : Int := if d.off then 8 else if f < 0 ∨ 2 ≤ f then 1 else 0
/-- A counted call does x to file i. -/
def Dk.burn (d : Dk) (i : Nat) (x : Fl) : Int × Dk :=
  if d.fuse = 0 then (8, { d with off := true }) else (0, ({ d with fuse := if 0 < d.fuse then d.fuse - 1 else d.fuse } : Dk).put i x)
def Dk.write (d : Dk) (f : Int) (b : List Nat) : Int × Dk :=
  if d.ask f ≠ 0 then (d.ask f, d) else if d.room < b.length then (7, d) else d.burn f.toNat ((d.at f.toNat).add (.w b))
def Dk.cut (d : Dk) (f n : Int) : Int × Dk :=
  if d.ask f ≠ 0 then (d.ask f, d) else if n < 0 ∨ ((d.at f.toNat).at.length : Int) < n then (1, d) else d.burn f.toNat ((d.at f.toNat).add (.c n.toNat))
def Dk.sync (d : Dk) (f : Int) : Int × Dk :=
  if d.ask f ≠ 0 then (d.ask f, d) else d.burn f.toNat (d.at f.toNat).settle
def Dk.read (d : Dk) (f : Int) : List Nat × Int := if d.ask f ≠ 0 then ([], d.ask f) else ((d.at f.toNat).at, 0)
def Dk.setFuse (d : Dk) (n : Int) : Int × Dk := if d.off then (8, d) else (0, { d with fuse := max n (-1) })
def Dk.goOff (d : Dk) : Int × Dk := if d.off then (8, d) else (0, { d with off := true })
def pick (p : List Int) (i : Nat) : Int := p.getD i 0
def Dk.goOn (d : Dk) (p : List Int) : Int × Dk := if d.off then (0, { d with off := false, fuse := -1, f := d.f.lose (pick p 0), g := d.g.lose (pick p 1) }) else (3, d)
def newD (m : Nat) : Dk := ⟨m, false, -1, ⟨[], []⟩, ⟨[], []⟩⟩

/-- The bounds that a disk keeps. -/
structure Dk.Ok (d : Dk) : Prop where
  most : d.most ≤ 4194304
  f : Fits d.most d.f.sure d.f.loose
  g : Fits d.most d.g.sure d.g.loose
  fuse : -1 ≤ d.fuse ∧ d.fuse ≤ 9223372036854775807
  bf : AllB d.f.sure ∧ ∀ b, Chg.w b ∈ d.f.loose → AllB b
  bg : AllB d.g.sure ∧ ∀ b, Chg.w b ∈ d.g.loose → AllB b
end Go.Proofs.YtjcphpmlekfhdaaGreatDoor

/- Changes in memory: what a write and a cut do, their units, and their first units. No condition. -/
namespace Go.Proofs.YtjcphpmlekfhdaaGreatDoor
open Go.RowKit

def wV (A : Option Addr) (n c : Nat) : Value := .iface 127 (.agg #[.slice A n c])
def cV (n : Nat) : Value := .iface 131 (.agg #[.int .i64 (n : Int)])
/-- How a change reads. -/
def ChgR : Reads Chg := fun w P V x => match x with
  | .w b => ∃ A c, V = [wV A b.length c] ∧ BsP w P A b.length b ∧ b.length ≤ c ∧ b.length ≤ 4194304 ∧ c ≤ 9223372036854775807
  | .c n => V = [cV n] ∧ n ≤ 4194304
theorem chgM : Mono ChgR where
  keep := by
    intro w w' P V x h g
    cases x with
    | w b => obtain ⟨A, c, e, h1, h2⟩ := h; exact ⟨A, c, e, h1.keep g, h2⟩
    | c n => exact h
  weak := by
    intro w P Q V x h q
    cases x with
    | w b => obtain ⟨A, c, e, h1, h2⟩ := h; exact ⟨A, c, e, h1.weak q, h2⟩
    | c n => exact h
theorem elemChg : ElemT 59 106 1 16 .nilIface := ⟨Tryz.underlying59, by kernel_rfl, rfl, by decide⟩

/-- A row cut to fewer. -/
theorem ownsRow_short {w : World} {base : Nat} {e : TypeId} {size : Nat} {A : Option Addr} {n c : Nat} {xs : List Value} (h : w.ownsRow base e size (.slice A n c) n xs) {k : Nat} (hk : k ≤ n) : w.ownsRow base e size (.slice A k c) k (xs.take (k * size)) := by
  obtain ⟨h1, h2⟩ := h
  have hm : k * size ≤ n * size := Nat.mul_le_mul_right _ hk
  refine ⟨by rw [List.length_take, h1]; omega, ?_⟩
  rcases h2 with ⟨e1, e2⟩ | ⟨g, cap, cur, e1, hb, hg, hn, hc, hs, ht⟩
  · injection e1 with a1 a2 a3
    subst a1 a3 e2
    obtain rfl : k = 0 := by omega
    exact .inl ⟨rfl, rfl⟩
  · injection e1 with a1 a2 a3
    subst a1 a3
    refine .inr ⟨g, c, cur, rfl, hb, hg, by omega, hc, hs, ?_⟩
    rw [← ht, List.take_take, Nat.min_eq_left hm]
theorem Own.short {w0 w : World} {A : Option Addr} {n c : Nat} {L : List Nat} (h : Own w0 (.slice A n c) n L w) {k : Nat} (hk : k ≤ n) : Own w0 (.slice A k c) k (L.take k) w :=
  ⟨by
    have := ownsRow_short h.row hk
    rw [Nat.mul_one] at this
    simpa [vals, List.map_take] using this, fun x hx => h.byt x (List.mem_of_mem_take hx), h.bel⟩

theorem writeDo_any {w0 w : World} {A : Option Addr} {n c : Nat} {L M : List Nat} {v : Value} {m : Nat} (hO : Own w0 v m L w) (hM : Bs w A n M) (hlen : m + n ≤ 1099511627776) :
    Calls Tryz.prog 132 #[.agg #[.slice A n c], v] w (Puts w0 w v L M) := by
  have HO := Lib.hid hO
  have HM := Lib.hid hM
  clear hO hM
  go_enter Tryz.func132, Tryz.ntmps132
  have B1 : Hid (Below w.heap.size w (w.alloc (.cells #[.slice A n c] 127))) := Lib.hid ((Below.refl _ _).alloc (Nat.le_refl _) _)
  go_wp2_with (at_builtin; refine wpList_appB rfl _ _ rfl rfl (HO.out.later B1.out) rfl (HM.out.later B1.out) hlen ?_)
  intro A' N c' w' h1 h2 h3
  have H1 := Lib.hid h1
  have H2 := Lib.hid h2
  have H3 := Lib.hid ((Grew.below v B1.out).trans h3)
  clear h1 h2 h3
  go_wp2_with fail
  go_ret
  exact ⟨A', N, c', rfl, H1.out, H2.out, H3.out⟩
theorem writeUnits_any {w : World} {A : Option Addr} {n c : Nat} :
    Calls Tryz.prog 134 #[.agg #[.slice A n c]] w fun e w' => e = .returned (.int .i64 (n : Nat)) ∧ Below w.heap.size w w' := by
  go_enter Tryz.func134, Tryz.ntmps134
  go_wp2_with fail
  go_ret
  exact ⟨rfl, (Below.refl _ _).alloc (Nat.le_refl _) _⟩
theorem writeFirst_any {w : World} {A : Option Addr} {n c k : Nat} (hk : k ≤ n) (hn : n ≤ c) :
    Calls Tryz.prog 133 #[.agg #[.slice A n c], .int .i64 (k : Nat)] w fun e w' => e = .returned (wV A k c) ∧ Below w.heap.size w w' := by
  go_enter Tryz.func133, Tryz.ntmps133
  go_wp2_with fail
  go_ret
  exact ⟨rfl, (Below.refl _ _).alloc (Nat.le_refl _) _⟩
theorem cutDo_any {w : World} {A : Option Addr} {n c k : Nat} (hk : k ≤ n) (hn : n ≤ c) :
    Calls Tryz.prog 135 #[.agg #[.int .i64 (k : Nat)], .slice A n c] w fun e w' => e = .returned (.slice A k c) ∧ Below w.heap.size w w' := by
  go_enter Tryz.func135, Tryz.ntmps135
  go_wp2_with fail
  go_ret
  exact ⟨rfl, (Below.refl _ _).alloc (Nat.le_refl _) _⟩
theorem cutUnits_any {w : World} {k : Int} :
    Calls Tryz.prog 137 #[.agg #[.int .i64 k]] w fun e w' => e = .returned (.int .i64 1) ∧ Below w.heap.size w w' := by
  go_enter Tryz.func137, Tryz.ntmps137
  go_wp2_with fail
  go_ret
  exact ⟨rfl, (Below.refl _ _).alloc (Nat.le_refl _) _⟩
theorem cutFirst_any {w : World} {k j : Int} :
    Calls Tryz.prog 136 #[.agg #[.int .i64 k], .int .i64 j] w fun e w' => e = .returned (wV none 0 0) ∧ Below w.heap.size w w' := by
  go_enter Tryz.func136, Tryz.ntmps136
  go_wp2_with fail
  go_ret
  exact ⟨rfl, (Below.refl _ _).alloc (Nat.le_refl _) _⟩
end Go.Proofs.YtjcphpmlekfhdaaGreatDoor

/- A file of a disk in memory: what is sure, and the row of what is loose. No condition. -/
namespace Go.Proofs.YtjcphpmlekfhdaaGreatDoor
open Go.RowKit

theorem OwnRw.kept {α : Type} {T : TypeId} {sz : Nat} {R : Reads α} {w0 w w' : World} {Q : Nat → Prop} {v : Value} {n : Nat} {l : List α} (M : Mono R) (h : OwnRw T sz R w0 Q v n l w)
    (hs : w.heap.size ≤ w'.heap.size) (hk : ∀ b, Q b ∨ v.ownBlock = some b → b < w.heap.size → w'.heap[b]? = w.heap[b]?) (hb : Below w0.heap.size w0 w') : OwnRw T sz R w0 Q v n l w' := by
  obtain ⟨cs, h1, h2, h3⟩ := h.row
  refine ⟨⟨cs, ⟨h1.1, ?_⟩, h2.imp fun V x hx => M.keep hx ⟨hs, fun b hq hl => hk b (.inl hq.1) hl⟩, h3⟩, h.len, hb⟩
  rcases h1.2 with e | ⟨g, cap, cur, e, hg, hh, r⟩
  · exact .inl e
  · refine .inr ⟨g, cap, cur, e, hg, ?_, r⟩
    rw [hk g (.inr (by rw [e]; rfl)) (Array.getElem?_eq_some_iff.1 hh).1]
    exact hh
theorem Own.kept {w0 w w' : World} {v : Value} {n : Nat} {L : List Nat} (h : Own w0 v n L w) (hk : ∀ b, v.ownBlock = some b → w'.heap[b]? = w.heap[b]?) (hb : Below w0.heap.size w0 w') : Own w0 v n L w' := by
  refine ⟨⟨h.row.1, ?_⟩, h.byt, hb⟩
  rcases h.row.2 with e | ⟨g, cap, cur, e, hg, hh, r⟩
  · exact .inl e
  · refine .inr ⟨g, cap, cur, e, hg, ?_, r⟩
    rw [hk g (by rw [e]; rfl)]
    exact hh
theorem OwnRw.short {α : Type} {T : TypeId} {R : Reads α} {w0 w : World} {Q : Nat → Prop} {A : Option Addr} {n c : Nat} {l : List α} (h : OwnRw T 1 R w0 Q (.slice A n c) n l w) {k : Nat} (hk : k ≤ n) : OwnRw T 1 R w0 Q (.slice A k c) k (l.take k) w := by
  obtain ⟨cs, h1, h2, h3⟩ := h.row
  have hl := h.len
  refine ⟨⟨cs.take k, by have := ownsRow_short h1 hk; rwa [Nat.mul_one] at this, ?_, fun u hu => h3 u (List.mem_of_mem_take hu)⟩, by rw [List.length_take]; omega, h.bel⟩
  have e : (Value.slice A k c).ownBlock = (Value.slice A n c).ownBlock := by cases A <;> rfl
  rw [e]
  rcases Nat.lt_or_ge k l.length with hlt | hge
  · obtain ⟨X, V, Z, rfl, hX, _, _, hE, _⟩ := h2.at_ hlt
    rw [Nat.mul_one] at hX
    rw [← hX, List.take_left]
    rw [hX]
    exact hE
  · rw [List.take_of_length_le hge, List.take_of_length_le (by rw [h2.len]; omega)]
    exact h2

/-- P and what is new. -/
def Gr (P : Nat → Prop) (w w' : World) : Nat → Prop := fun b => P b ∨ (w.heap.size ≤ b ∧ b < w'.heap.size)
structure FlAt (w0 : World) (P : Nat → Prop) (vs vl : Value) (S : Fl) (w : World) : Prop where
  sure : Own w0 vs S.sure.length S.sure w
  loose : OwnRw 106 1 ChgR w0 (fun b => P b ∧ some b ≠ vs.ownBlock) vl S.loose.length S.loose w
  ps : ∀ k, vs.ownBlock = some k → P k
  pl : ∀ k, vl.ownBlock = some k → P k ∧ vs.ownBlock ≠ some k
  lt : ∀ k, P k → w0.heap.size ≤ k ∧ k < w.heap.size
section
variable {w0 w w' : World} {P : Nat → Prop} {vs vl vs' vl' : Value} {S : Fl}
/-- What is in P lies as it lay. -/
theorem FlAt.keep (F : FlAt w0 P vs vl S w) (g : Kept P w w') (hb : Below w0.heap.size w0 w') : FlAt w0 P vs vl S w' where
  sure := F.sure.kept (fun b e => g.blk b (F.ps b e) (F.lt b (F.ps b e)).2) hb
  loose := F.loose.kept chgM g.size (fun b h hl => by
    rcases h with h | h
    · exact g.blk b h.1 hl
    · exact g.blk b (F.pl b h).1 hl) hb
  ps := F.ps
  pl := F.pl
  lt := fun k h => ⟨(F.lt k h).1, Nat.lt_of_lt_of_le (F.lt k h).2 g.size⟩
theorem FlAt.more {Q : Nat → Prop} (F : FlAt w0 P vs vl S w) (h1 : ∀ k, P k → Q k) (h2 : ∀ k, Q k → w0.heap.size ≤ k ∧ k < w.heap.size) : FlAt w0 Q vs vl S w where
  sure := F.sure
  loose := F.loose.weak chgM fun b hb _ => ⟨h1 b hb.1, hb.2⟩
  ps := fun k e => h1 k (F.ps k e)
  pl := fun k e => ⟨h1 k (F.pl k e).1, (F.pl k e).2⟩
  lt := h2
theorem Gr.lt (F : FlAt w0 P vs vl S w) (hb : Below w0.heap.size w0 w) (hs : w.heap.size ≤ w'.heap.size) : ∀ k, Gr P w w' k → w0.heap.size ≤ k ∧ k < w'.heap.size := fun k h => by
  rcases h with h | h
  · exact ⟨(F.lt k h).1, Nat.lt_of_lt_of_le (F.lt k h).2 hs⟩
  · exact ⟨Nat.le_trans hb.size h.1, h.2⟩
/-- Another sure row. -/
theorem FlAt.turn {n : Nat} {M : List Nat} (F : FlAt w0 P vs vl S w) (G : Grew w w' vs vs') (O : Own w0 vs' n M w') : FlAt w0 (Gr P w w') vs' vl ⟨M, S.loose⟩ w' := by
  have hs := G.g.size
  have gl := Gr.lt F F.sure.bel hs
  have ne : ∀ b, some b ≠ vs.ownBlock → b < w.heap.size → some b ≠ vs'.ownBlock := fun b h hl => by
    rcases G.ne with e | e
    · rw [e]; exact h
    · intro q
      have := e b q.symm
      omega
  have hn : M.length = n := O.len
  subst hn
  refine ⟨O, ?_, fun k e => ?_, fun k e => ?_, gl⟩
  · have x := F.loose.kept chgM hs (w' := w') (fun b h hl => by
      rcases h with h | h
      · exact G.g.block b hl h.2
      · exact G.g.block b hl fun e => (F.pl b h).2 e.symm) O.bel
    have h0 := F.loose.new
    obtain ⟨cs, h1, h2, h3⟩ := F.loose.row
    obtain ⟨cs', y1, y2, y3⟩ := x.row
    have hk : Kept (fun b => (P b ∧ some b ≠ vs.ownBlock) ∧ some b ≠ vl.ownBlock) w w' := ⟨hs, fun b hb hl => G.g.block b hl hb.1.2⟩
    refine ⟨⟨cs, ?_, h2.imp fun V c hc => ?_, h3⟩, F.loose.len, O.bel⟩
    · refine ⟨h1.1, ?_⟩
      rcases h1.2 with e | ⟨g, cap, cur, e, hg, hh, r⟩
      · exact .inl e
      · refine .inr ⟨g, cap, cur, e, hg, ?_, r⟩
        have q : vl.ownBlock = some g := by rw [e]; rfl
        rw [G.g.block g (Array.getElem?_eq_some_iff.1 hh).1 fun e2 => (F.pl g q).2 e2.symm]
        exact hh
    · have y := chgM.weak hc (Q := fun b => ((P b ∧ some b ≠ vs.ownBlock) ∧ some b ≠ vl.ownBlock) ∧ b < w.heap.size) fun b hb hl => ⟨hb, hl⟩
      have z := chgM.keep y (w' := w') ⟨hs, fun b hb hl => G.g.block b hl hb.1.1.2⟩
      exact chgM.weak z fun b hb _ => ⟨⟨.inl hb.1.1.1, ne b hb.1.1.2 hb.2⟩, hb.1.2⟩
  · rcases G.ne with q | q
    · exact .inl (F.ps k (by rw [← q]; exact e))
    · exact .inr ⟨q k e, (O.new k e).2⟩
  · refine ⟨.inl (F.pl k e).1, fun q => ?_⟩
    have hl := (F.lt k (F.pl k e).1).2
    exact ne k (fun z => (F.pl k e).2 z.symm) hl q.symm
/-- An element of the loose row. -/
theorem FlAt.at_ (F : FlAt w0 P vs vl S w) {i : Nat} (hi : i < S.loose.length) : ∃ g c V, vl = .slice (some ⟨g, 0, none⟩) S.loose.length c ∧ S.loose.length ≤ c ∧ w.cell? ⟨g, i, none⟩ = some V ∧ ChgR w (fun b => P b ∧ some b ≠ vs.ownBlock ∧ some b ≠ vl.ownBlock) [V] S.loose[i] := by
  obtain ⟨cs, h1, h2, h3⟩ := F.loose.row
  obtain ⟨g, cap, hv, _, _⟩ := h1.form (by omega)
  obtain ⟨A, c, e, hc⟩ := F.loose.shape
  obtain ⟨X, V, Z, rfl, hX, hV, hR, _, _⟩ := h2.at_ hi
  obtain ⟨u, rfl⟩ : ∃ u, V = [u] := by
    match V, hV with
    | [u], _ => exact ⟨u, rfl⟩
  rw [hv] at e
  injection e with e1 e2 e3
  subst e3
  refine ⟨g, cap, u, hv, hc, ?_, chgM.weak hR fun b hb _ => ⟨hb.1.1, hb.1.2, hb.2⟩⟩
  have ea : (⟨g, i, none⟩ : Addr) = (⟨g, 0, none⟩ : Addr).add i := by unfold Addr.add; split <;> simp_all
  rw [ea]
  exact h1.cells (g := g) (by rw [hv]; rfl) i u (by
    rw [Nat.mul_one] at hX
    rw [List.getElem?_append_right (by omega), hX, Nat.sub_self]
    rfl)
end
end Go.Proofs.YtjcphpmlekfhdaaGreatDoor

/- settle: all that is loose made sure. No condition but bounds. -/
namespace Go.Proofs.YtjcphpmlekfhdaaGreatDoor
open Go.RowKit

theorem nilW (A : Option Addr) (n c : Nat) (w : World) : (nilAhead 282 127 (.agg #[.slice A n c]) "scantling/disk.do").run Tryz.prog w = .ok (some false) w := by kernel_rfl
theorem nilC (k : Int) (w : World) : (nilAhead 282 131 (.agg #[.int .i64 k]) "scantling/disk.do").run Tryz.prog w = .ok (some false) w := by kernel_rfl
theorem metW (A : Option Addr) (n c : Nat) (w : World) : (method 282 127 (.agg #[.slice A n c]) "scantling/disk.do").run Tryz.prog w = .ok (132, .agg #[.slice A n c]) w := by kernel_rfl
theorem metC (k : Int) (w : World) : (method 282 131 (.agg #[.int .i64 k]) "scantling/disk.do").run Tryz.prog w = .ok (135, .agg #[.int .i64 k]) w := by kernel_rfl
/-- What a file of the disk at d leaves. -/
structure Fil (w0 : World) (P : Nat → Prop) (w : World) (d o : Nat) (T : TypeId) (cur : List Value) (S : Fl) (sz : Int) (W : World) : Prop where
  ex : ∃ vs vl, FlAt w0 (Gr P w W) vs vl S W ∧ Ro W d T (((cur.set o vs).set (o + 1) vl).set (o + 2) (.int .i64 sz))
  kept : Kept (fun b => ¬ P b ∧ b ≠ d) w W

theorem Gr.step {P : Nat → Prop} {w w1 w2 : World} (h1 : w.heap.size ≤ w1.heap.size) (h2 : w1.heap.size ≤ w2.heap.size) : ∀ k, Gr (Gr P w w1) w1 w2 k → Gr P w w2 k := fun k h => by
  rcases h with (h | h) | h
  · exact .inl h
  · exact .inr ⟨h.1, by omega⟩
  · exact .inr ⟨by omega, h.2⟩
/-- What the rounds hand on: k changes are sure. -/
def SetAt (w0 : World) (P : Nat → Prop) (w : World) (d o : Nat) (T : TypeId) (cur : List Value) (vl : Value) (S : Fl) (k : Nat) (wr : World) : Prop :=
  ∃ v, FlAt w0 (Gr P w wr) v vl ⟨appl S.sure (S.loose.take k), S.loose⟩ wr ∧ Ro wr d T (cur.set o v) ∧ Kept (fun b => ¬ P b ∧ b ≠ d) w wr
theorem SetAt.start {w0 w : World} {P : Nat → Prop} {vs vl : Value} {S : Fl} {d o : Nat} {T : TypeId} {cur : List Value} (F : FlAt w0 P vs vl S w) (R : Ro w d T cur) (c0 : cur[o]? = some vs) : SetAt w0 P w d o T cur vl S 0 w :=
  ⟨vs, F.more (fun k h => .inl h) (Gr.lt F F.sure.bel (Nat.le_refl _)), by
    have : cur.set o vs = cur := by
      apply List.ext_getElem? 
      intro j
      rw [List.getElem?_set]
      split
      · next h => subst h; rw [c0]; simp [(List.getElem?_eq_some_iff.1 c0).1]
      · rfl
    rw [this]; exact R, Nat.le_refl _, fun _ _ _ => rfl⟩

theorem Gr.not {P : Nat → Prop} {w w' : World} {d : Nat} (h : ¬ P d) (hl : d < w.heap.size) : ¬ Gr P w w' d := fun q => by
  rcases q with q | q
  · exact h q
  · omega
theorem kept_set (w : World) (d o : Nat) (v : Value) {P : Nat → Prop} (h : ¬ P d) : Kept P w (w.setCell ⟨d, o, none⟩ v) := ⟨by simp, fun b hb _ => Below.heap_setCell _ _ _ _ fun e => h (by
  have e' : b = d := e
  rw [← e']; exact hb)⟩
theorem Kept.weak {P Q : Nat → Prop} {w w' : World} (g : Kept P w w') (h : ∀ b, Q b → b < w.heap.size → P b) : Kept Q w w' := ⟨g.size, fun b hb hl => g.blk b (h b hb hl) hl⟩
theorem SetAt.next {w0 w wr w' : World} {P : Nat → Prop} {v v' vl : Value} {S : Fl} {d o n k : Nat} {T : TypeId} {cur : List Value} {x : Chg} (F : FlAt w0 (Gr P w wr) v vl ⟨appl S.sure (S.loose.take k), S.loose⟩ wr) (R : Ro wr d T (cur.set o v))
    (K : Kept (fun b => ¬ P b ∧ b ≠ d) w wr) (hd : ¬ P d) (hw : w0.heap.size ≤ d) (hl : d < w.heap.size) (hx : S.loose[k]? = some x) (O : Own w0 v' n (doC (appl S.sure (S.loose.take k)) x) w') (G : Grew wr w' v v') :
    SetAt w0 P w d o T cur vl S (k + 1) (w'.setCell ⟨d, o, none⟩ v') := by
  have nd : some d ≠ v.ownBlock := fun e => Gr.not hd hl (F.ps d e.symm)
  have gs := G.g.size
  have s1 := K.size
  have e1 : appl S.sure (S.loose.take (k + 1)) = doC (appl S.sure (S.loose.take k)) x := by
    rw [List.take_add_one, hx, appl_app]
    rfl
  have sz : (w'.setCell ⟨d, o, none⟩ v').heap.size = w'.heap.size := by simp
  refine ⟨v', ?_, ?_, ?_⟩
  · rw [e1]
    have F1 := (F.turn G O).keep (kept_set w' d o v' (Gr.not (Gr.not hd hl) (by omega))) (O.bel.setCell hw v')
    refine F1.more (fun q h => ?_) (fun q h => ?_)
    · have := Gr.step s1 gs q h
      rcases this with h | h
      · exact .inl h
      · exact .inr ⟨h.1, by rw [sz]; exact h.2⟩
    · rcases h with h | h
      · have := F.lt q (.inl h)
        exact ⟨this.1, by rw [sz]; omega⟩
      · exact ⟨by
          have := F.sure.bel.size
          rcases Nat.lt_or_ge q wr.heap.size with h2 | h2
          · exact (F.lt q (.inr ⟨h.1, h2⟩)).1
          · omega, h.2⟩
  · have := (R.far G.g nd).set o v'
    rwa [List.set_set] at this
  · refine ⟨by rw [sz]; omega, fun b hb hb2 => ?_⟩
    rw [Below.heap_setCell _ _ _ _ (show b ≠ d from hb.2), G.g.block b (by omega) fun e => ?_, K.blk b hb hb2]
    rcases F.ps b e.symm with q | q
    · exact hb.1 q
    · omega
theorem FlAt.empty {w0 w : World} {P : Nat → Prop} {vs vl : Value} {S : Fl} (F : FlAt w0 P vs vl S w) : FlAt w0 P vs (.slice none 0 0) ⟨S.sure, []⟩ w :=
  ⟨F.sure, OwnRw.none_ F.sure.bel, F.ps, fun k e => (by cases e), F.lt⟩
/-- Stores into the disk itself turn nothing of its files. -/
theorem FlAt.set {w0 w wr : World} {P : Nat → Prop} {vs vl : Value} {S : Fl} {d : Nat} (F : FlAt w0 (Gr P w wr) vs vl S wr) (hd : ¬ P d) (hl : d < w.heap.size) (hw : w0.heap.size ≤ d) (o : Nat) (v : Value) : FlAt w0 (Gr P w (wr.setCell ⟨d, o, none⟩ v)) vs vl S (wr.setCell ⟨d, o, none⟩ v) := by
  have sz : (wr.setCell ⟨d, o, none⟩ v).heap.size = wr.heap.size := by simp
  have e : Gr P w (wr.setCell ⟨d, o, none⟩ v) = Gr P w wr := by
    funext b
    unfold Gr
    rw [sz]
  rw [e]
  exact F.keep (kept_set wr d o v (Gr.not hd hl)) (F.sure.bel.setCell hw v)
theorem kept_step {P : Nat → Prop} {w wr : World} {d : Nat} (K : Kept (fun b => ¬ P b ∧ b ≠ d) w wr) (o : Nat) (v : Value) : Kept (fun b => ¬ P b ∧ b ≠ d) w (wr.setCell ⟨d, o, none⟩ v) :=
  ⟨by simpa using K.size, fun b hb hl => by rw [Below.heap_setCell _ _ _ _ (show b ≠ d from hb.2)]; exact K.blk b hb hl⟩
theorem Fil.done {w0 w wr : World} {P : Nat → Prop} {v vl : Value} {M : List Nat} {l : List Chg} {d o : Nat} {T : TypeId} {cur : List Value} (F : FlAt w0 (Gr P w wr) v vl ⟨M, l⟩ wr) (R : Ro wr d T (cur.set o v)) (K : Kept (fun b => ¬ P b ∧ b ≠ d) w wr)
    (hd : ¬ P d) (hw : w0.heap.size ≤ d) (hl : d < w.heap.size) : Fil w0 P w d o T cur ⟨M, []⟩ (M.length : Nat) ((wr.setCell ⟨d, o + 1, none⟩ (.slice none 0 0)).setCell ⟨d, o + 2, none⟩ (.int .i64 (M.length : Nat))) :=
  ⟨⟨v, .slice none 0 0, (F.empty.set hd hl hw _ _).set hd hl hw _ _, (R.set _ _).set _ _⟩, kept_step (kept_step K _ _) _ _⟩
theorem Fits.at_ {M : Nat} : ∀ {l : List Chg} {b : List Nat} {k : Nat} {x : Chg}, Fits M b l → l[k]? = some x → (appl b (l.take k)).length ≤ M ∧ (match x with | .c n => n ≤ (appl b (l.take k)).length | .w _ => True) ∧ (doC (appl b (l.take k)) x).length ≤ M
  | [], _, _, _, _, h => by simp at h
  | c :: l, b, 0, x, h, e => by
    obtain rfl : c = x := by simpa using e
    exact ⟨h.1, h.2.1, Fits.start h.2.2⟩
  | c :: l, b, k + 1, x, h, e => by
    have := Fits.at_ (k := k) (x := x) h.2.2 (by simpa using e)
    simpa [appl_cons] using this

set_option maxRecDepth 100000 in
set_option maxHeartbeats 4000000 in
theorem settle_any {w0 w : World} {P : Nat → Prop} {vs vl : Value} {S : Fl} {d o : Nat} {T : TypeId} {cur : List Value} (F : FlAt w0 P vs vl S w) (R : Ro w d T cur) (hd : ¬ P d) (hw : w0.heap.size ≤ d)
    (c0 : cur[o]? = some vs) (c1 : cur[o + 1]? = some vl) (hl : o + 2 < cur.length) (hf : Fits 4194304 S.sure S.loose) (hn : S.loose.length ≤ 1073741824) :
    Calls Tryz.prog 78 #[.pointer (some ⟨d, o, none⟩)] w fun e W => e = .returned (.tuple #[]) ∧ Fil w0 P w d o T cur ⟨S.at, []⟩ (S.at.length : Nat) W := by
  have RC1 := R.cell c1
  obtain ⟨A, c, rfl, hc⟩ := F.loose.shape
  have HF := Lib.hid F
  have HR := Lib.hid R
  clear F R
  go_enter Tryz.func78, Tryz.ntmps78
  go_wp2_with fail
  go_loopw [9] (fun i wr => ∃ k : Nat, k ≤ S.loose.length ∧ i = .int .i64 (k : Nat) ∧ SetAt w0 P w d o T cur (.slice A S.loose.length c) S k wr) (fun i _ => S.loose.length - (intOf i).toNat)
  case atStart => exact ⟨0, Nat.zero_le _, rfl, SetAt.start HF.out HR.out c0⟩
  case round =>
    obtain ⟨k, hk, rfl, J⟩ := hrel
    have HJ := Lib.hid J
    clear J
    by_cases hlt : k < S.loose.length
    · obtain ⟨v, F, R, K⟩ := HJ.out
      obtain ⟨g, c', V, e1, hc', CV, RV⟩ := F.at_ (i := k) hlt
      injection e1 with e1 _ e2
      subst e1 e2
      obtain ⟨x, hx⟩ : ∃ x, S.loose[k]? = some x := ⟨_, List.getElem?_eq_getElem hlt⟩
      have hx' : S.loose[k] = x := by simpa [hlt] using hx
      have ft := Fits.at_ hf hx
      have hs1 := F.sure
      have NX : Hid (∀ v' w' n, Own w0 v' n (doC (appl S.sure (S.loose.take k)) x) w' → Grew wr w' v v' → SetAt w0 P w d o T cur (.slice (some ⟨g, 0, none⟩) S.loose.length c) S (k + 1) (w'.setCell ⟨d, o, none⟩ v') ∧ w'.cell? ⟨d, o, none⟩ = some v ∧ w'.frozen? ⟨d, o, none⟩ = false) := Lib.hid fun v' w' n O G => by
        have R' := R.far G.g fun e => Gr.not hd HR.out.lt (F.ps d e.symm)
        exact ⟨SetAt.next F R K hd hw HR.out.lt hx O G, R'.cell (List.getElem?_set_self (by omega)), R'.free o⟩
      have RC0 := R.cell (k := o) (v := v) (List.getElem?_set_self (by omega))
      obtain ⟨M, hM⟩ : ∃ M, appl S.sure (S.loose.take k) = M := ⟨_, rfl⟩
      dsimp only at RV
      rw [hx'] at RV
      simp only at hs1 ft
      rw [hM] at ft hs1 NX
      have hs2 := hs1.later (w1 := wr.drew) (Below.refl _ _).drew
      clear F R K hM hs1
      have GD : Hid (∀ v' w', Grew wr.drew w' v v' → Grew wr w' v v') := Lib.hid fun v' w' G => (Grew.below v (Below.refl _ _).drew).trans G
      cases x with
      | w L =>
        obtain ⟨A', c', e2, hL, hc2, hc3, _⟩ := RV
        obtain rfl : V = wV A' L.length c' := by simpa using e2
        have C : Hid (Calls Tryz.prog 132 #[.agg #[.slice A' L.length c'], v] wr.drew fun e w' => ∃ A1 n1 c1, e = .returned (.slice A1 n1 c1) ∧ SetAt w0 P w d o T cur (.slice (some ⟨g, 0, none⟩) S.loose.length c) S (k + 1) (w'.setCell ⟨d, o, none⟩ (.slice A1 n1 c1)) ∧ w'.cell? ⟨d, o, none⟩ = some v ∧ w'.frozen? ⟨d, o, none⟩ = false) :=
          Lib.hid ((writeDo_any (c := c') hs2 (hL.bs.later (Below.refl _ _).drew) (by have := ft.2.2; simp only [doC, List.length_append] at this; omega)).mono fun e w' ⟨A1, N1, c1, h1, _, h2, h3⟩ => ⟨_, _, _, h1, NX.out _ _ _ h2 (GD.out _ _ h3)⟩)
        clear hs2 hL e2 ft NX GD
        unfold wV at *
        go_wp2_with fail
        have nw := nilW A' L.length c' wr.drew
        have mw := metW A' L.length c' wr.drew
        go_region_law (first | (go_simp; (with_reducible refine (C.out).mono ?_); rintro e w' ⟨A1, n1, c1', rfl, j1, j2, j3⟩; go_simp))
        all_goals go_wp2_with fail
        all_goals go_roundw
        all_goals first
          | exact ⟨k + 1, by omega, by go_num, j1⟩
          | (simp [intOf]; omega)
      | c q =>
        obtain ⟨rfl⟩ : V = cV q := by simpa using RV.1
        obtain ⟨A2, c2, rfl, hc2⟩ := hs2.shape
        have C : Hid (Calls Tryz.prog 135 #[.agg #[.int .i64 (q : Nat)], .slice A2 M.length c2] wr.drew fun e w' => ∃ A1 n1 c1, e = .returned (.slice A1 n1 c1) ∧ SetAt w0 P w d o T cur (.slice (some ⟨g, 0, none⟩) S.loose.length c) S (k + 1) (w'.setCell ⟨d, o, none⟩ (.slice A1 n1 c1)) ∧ w'.cell? ⟨d, o, none⟩ = some (.slice A2 M.length c2) ∧ w'.frozen? ⟨d, o, none⟩ = false) :=
          Lib.hid ((cutDo_any ft.2.1 hc2).mono fun e w' ⟨h1, h2⟩ => ⟨_, _, _, h1, NX.out _ _ _ ((hs2.later h2).short ft.2.1) (GD.out _ _ ⟨⟨h2.os, h2.tape, h2.output, h2.size, fun b hb _ => h2.block b hb⟩, .inl (by cases A2 <;> rfl)⟩)⟩)
        have nw := nilC q wr.drew
        have mw := metC q wr.drew
        clear hs2 ft NX GD RV
        unfold cV at *
        go_wp2_with fail
        go_region_law (first | (go_simp; (with_reducible refine (C.out).mono ?_); rintro e w' ⟨A1, n1, c1', rfl, j1, j2, j3⟩; go_simp))
        all_goals go_wp2_with fail
        all_goals go_roundw
        all_goals first
          | exact ⟨k + 1, by omega, by go_num, j1⟩
          | (simp [intOf]; omega)
    · obtain rfl : k = S.loose.length := by omega
      obtain ⟨v, F, R, K⟩ := HJ.out
      rw [List.take_length] at F
      have HE : Hid (S.at = appl S.sure S.loose) := Lib.hid rfl
      obtain ⟨M, hM⟩ : ∃ M, S.at = M := ⟨_, rfl⟩
      rw [← HE.out, hM] at F
      have HM := Lib.hid hM
      obtain ⟨A2, c2, rfl, hc2⟩ := F.sure.shape
      dsimp only at R hc2
      have r0 := R.cell (k := o) (List.getElem?_set_self (by omega))
      have f1 := R.free (o + 1)
      have R1 := R.set (o + 1) (.slice none 0 0)
      have f2 := R1.free (o + 2)
      have FF := Lib.hid (Fil.done F R K hd hw HR.out.lt)
      have RL := R.lt
      have q1 := R.cell (k := o + 1) (by rw [List.getElem?_set_ne (by omega)]; exact c1)
      obtain ⟨x2, hx2⟩ : ∃ x, cur[o + 2]? = some x := ⟨_, List.getElem?_eq_getElem hl⟩
      have q2 := R1.cell (k := o + 2) (by rw [List.getElem?_set_ne (by omega), List.getElem?_set_ne (by omega)]; exact hx2)
      clear F R K R1 hM
      go_wp2_with fail
      go_returns
      rw [HM.out]
      exact ⟨rfl, FF.out⟩
end Go.Proofs.YtjcphpmlekfhdaaGreatDoor

/- add: a change put behind what is loose; and the two functions that do it for Write and Cut. No condition but bounds. -/
namespace Go.Proofs.YtjcphpmlekfhdaaGreatDoor
open Go.RowKit

/-- Another loose row. -/
theorem FlAt.added {w0 w w' : World} {P : Nat → Prop} {vs vl vl' : Value} {S : Fl} {x : Chg} {n : Nat} (F : FlAt w0 P vs vl S w) (G : w.grownBy w' vl.ownBlock) (ne : vl'.ownBlock = vl.ownBlock ∨ ∀ b, vl'.ownBlock = some b → w.heap.size ≤ b)
    (O : OwnRw 106 1 ChgR w0 (fun b => P b ∧ some b ≠ vs.ownBlock) vl' n (S.loose ++ [x]) w') : FlAt w0 (Gr P w w') vs vl' (S.add x) w' := by
  have hs := G.size
  have hn : (S.loose ++ [x]).length = n := O.len
  subst hn
  have sk : ∀ b, vs.ownBlock = some b → some b ≠ vl.ownBlock := fun b e e2 => (F.pl b e2.symm).2 e
  refine ⟨F.sure.kept (fun b e => G.block b (F.lt b (F.ps b e)).2 (sk b e)) O.bel, O.weak chgM (fun b hb _ => ⟨.inl hb.1, hb.2⟩), fun k e => .inl (F.ps k e), fun k e => ?_, Gr.lt F F.sure.bel hs⟩
  rcases ne with q | q
  · rw [q] at e
    exact ⟨.inl (F.pl k e).1, (F.pl k e).2⟩
  · have h1 := q k e
    exact ⟨.inr ⟨h1, (O.new k e).2⟩, fun e2 => by have := (F.lt k (F.ps k e2)).2; omega⟩

set_option maxRecDepth 100000 in
set_option maxHeartbeats 4000000 in
theorem add_any {w0 w : World} {P : Nat → Prop} {vs vl : Value} {S : Fl} {d o : Nat} {T : TypeId} {cur : List Value} {x : Chg} {ty : TypeId} {u : Value} {sz : Int} (F : FlAt w0 P vs vl S w) (R : Ro w d T cur) (hd : ¬ P d) (hw : w0.heap.size ≤ d)
    (c1 : cur[o + 1]? = some vl) (hl : o + 2 < cur.length) (hn : S.loose.length ≤ 1073741823) (hV : ChgR w (fun b => P b ∧ some b ≠ vs.ownBlock ∧ some b ≠ vl.ownBlock) [.iface ty u] x) :
    Calls Tryz.prog 83 #[.pointer (some ⟨d, o, none⟩), .iface ty u, .int .i64 sz] w fun e W => e = .returned (.tuple #[]) ∧
      ∃ vl', FlAt w0 (Gr P w W) vs vl' (S.add x) W ∧ Ro W d T ((cur.set (o + 1) vl').set (o + 2) (.int .i64 sz)) ∧ Kept (fun b => ¬ P b ∧ b ≠ d) w W := by
  have RC1 := R.cell c1
  obtain ⟨A, c, rfl, hc⟩ := F.loose.shape
  have HF := Lib.hid F
  have HR := Lib.hid R
  have HV := Lib.hid hV
  have b1 : Below w.heap.size w (w.alloc (.cells #[.iface ty u] 106)) := (Below.refl _ _).alloc (Nat.le_refl _) _
  have B1 := Lib.hid b1
  have OL := Lib.hid (F.loose.later chgM b1)
  have EV : Hid (Each 1 (ChgR (w.alloc (.cells #[.iface ty u] 106)) fun b => (P b ∧ some b ≠ vs.ownBlock) ∧ some b ≠ (Value.slice A S.loose.length c).ownBlock ∧ b < (w.alloc (.cells #[.iface ty u] 106)).heap.size) [.iface ty u] [x]) :=
    Lib.hid (Each.one rfl (chgM.weak (chgM.keep hV (Kept.of_below b1)) fun b hb hl => ⟨⟨hb.1, hb.2.1⟩, hb.2.2, hl⟩))
  have RV : Hid (∀ (_ : 0 < 1), ∃ b o, (some ⟨w.heap.size, 0, none⟩ : Option Addr) = some ⟨b, o, none⟩ ∧ (w.alloc (.cells #[.iface ty u] 106)).rangeAt b o [.iface ty u]) := Lib.hid fun _ => ⟨_, _, rfl, fun j q hj => by
    have := (Ro.new w 106 [.iface ty u]).cell (k := j) hj
    rwa [Nat.zero_add]⟩
  clear F R hV b1
  go_enter Tryz.func83, Tryz.ntmps83
  go_wp2_with (at_builtin; refine wpList_appRw (m := 1) (c := 1) (k := [x]) (cs := [.iface ty u]) (N := S.loose.length + 1) elemChg chgM rfl _ _ rfl rfl OL.out rfl rfl RV.out EV.out ?e1 rfl ?e2 ?e3 ?_)
  case e1 => intro y hy; simp at hy; rw [hy]; rfl
  case e2 => omega
  case e3 => omega
  intro A' c' w' j1 j2 j3 j4
  have nd : some d ≠ (Value.slice A S.loose.length c).ownBlock := fun e => hd (HF.out.pl d e.symm).1
  have g : w.grownBy w' (Value.slice A S.loose.length c).ownBlock := by
    have s0 : w.heap.size ≤ (w.alloc (.cells #[.iface ty u] 106)).heap.size := B1.out.size
    exact ⟨j3.os.trans B1.out.os, j3.tape.trans B1.out.tape, j3.output.trans B1.out.output, Nat.le_trans s0 j3.size, fun k hk hne => by rw [j3.block k (by omega) hne, B1.out.block k hk]⟩
  have F2 : FlAt w0 (Gr P w w') vs (.slice A' (S.loose.length + 1) c') (S.add x) w' := HF.out.added g (by
    rcases j4 with q | q
    · exact .inl q
    · refine .inr fun b e => ?_
      rw [q] at e
      injection e with e
      have := B1.out.size
      omega) j2
  have R2 := HR.out.far g nd
  have f1 := R2.free (o + 1)
  have q1 := R2.cell (k := o + 1) c1
  have R3 := R2.set (o + 1) (.slice A' (S.loose.length + 1) c')
  have f2 := R3.free (o + 2)
  obtain ⟨x2, hx2⟩ : ∃ x, cur[o + 2]? = some x := ⟨_, List.getElem?_eq_getElem hl⟩
  have q2 := R3.cell (k := o + 2) (by rw [List.getElem?_set_ne (by omega)]; exact hx2)
  have K2 : Kept (fun b => ¬ P b ∧ b ≠ d) w w' := ⟨g.size, fun b hb hlt => g.block b hlt fun e => hb.1 (HF.out.pl b e.symm).1⟩
  have FF := Lib.hid (show ∃ vl', FlAt w0 (Gr P w ((w'.setCell ⟨d, o + 1, none⟩ (.slice A' (S.loose.length + 1) c')).setCell ⟨d, o + 2, none⟩ (.int .i64 sz))) vs vl' (S.add x) ((w'.setCell ⟨d, o + 1, none⟩ (.slice A' (S.loose.length + 1) c')).setCell ⟨d, o + 2, none⟩ (.int .i64 sz)) ∧ Ro ((w'.setCell ⟨d, o + 1, none⟩ (.slice A' (S.loose.length + 1) c')).setCell ⟨d, o + 2, none⟩ (.int .i64 sz)) d T ((cur.set (o + 1) vl').set (o + 2) (.int .i64 sz)) ∧ Kept (fun b => ¬ P b ∧ b ≠ d) w ((w'.setCell ⟨d, o + 1, none⟩ (.slice A' (S.loose.length + 1) c')).setCell ⟨d, o + 2, none⟩ (.int .i64 sz)) from
    ⟨_, (F2.set hd HR.out.lt hw _ _).set hd HR.out.lt hw _ _, R3.set _ _, kept_step (kept_step K2 _ _) _ _⟩)
  clear F2 R2 R3 K2 g nd j1 j2 j3 j4
  go_wp2_with fail
  go_returns
  exact ⟨rfl, FF.out⟩
end Go.Proofs.YtjcphpmlekfhdaaGreatDoor

/- slices.Clone of bytes. No condition but a bound. -/
namespace Go.Proofs.YtjcphpmlekfhdaaGreatDoor
open Go.RowKit

theorem wp_lit0 {w : World} {o : Oper} {a : Act} {Q : Exit → Act → World → Prop} {K : Act → World → Prop} {d : Option Tmp} (hd : o.dst = d) (ho : o.op = .buildSlice 40 0 #[]) (h : K (a.put d (.slice (some ⟨w.heap.size, 0, none⟩) 0 0)) (w.alloc (.cells #[] 5))) : o.wp Tryz.prog a w K Q := by
  subst hd
  have hi : ∃ i, Tryz.prog.info? 5 = some i ∧ i.zero = some (.int .u8 0) ∧ i.size = 1 := by
    obtain ⟨i0, hi, hz0, hz1, _⟩ := info_parts Tryz.infoByte
    exact ⟨i0, hi, hz0, hz1⟩
  obtain ⟨i0, hi, hz, hs⟩ := hi
  have key : (Instr.buildSlice 40 0 #[]).run Tryz.prog w = .ok (.slice (some ⟨w.heap.size, 0, none⟩) 0 0) (w.alloc (.cells #[] 5)) := by
    simp [Instr.buildSlice, run_underlying Tryz.underlying40, sizeOf, typeInfo, hi, newRow, Instr.fill, Array.range_zero']
  unfold Oper.wp execOp
  simp only [ho, Sem.run_bind]
  rw [show (#[].map fun (x : Nat × Operand) => match x with | (i, x) => (i, a.eval x)) = (#[] : Array (Nat × Value)) by simp, key]
  exact h
theorem eql_nil (A : Option Addr) (n c : Nat) (w : World) : (binOp .eql 40 (.slice A n c) (.slice none 0 0)).run Tryz.prog w = .ok (.bool A.isNone) w := by
  simp [binOp, run_equal_slice_nil w _ _ A n c Tryz.underlying40]
set_option maxRecDepth 100000 in
theorem clone_any {w : World} {A : Option Addr} {n c : Nat} {L : List Nat} (hL : Bs w A n L) (hn : n ≤ 1099511627776) (hc : n ≤ c) :
    Calls Tryz.prog 59 #[.slice A n c] w (GivesB w L) := by
  have HL := Lib.hid hL
  rcases A with _ | a
  · obtain rfl : n = 0 := by
      rcases Nat.eq_zero_or_pos n with h | h
      · exact h
      · obtain ⟨_, e, _⟩ := hL.cel h
        cases e
    obtain rfl : L = [] := List.eq_nil_of_length_eq_zero hL.len
    clear hL
    have eq1 := eql_nil none 0 c w
    simp only [Option.isNone] at eq1
    go_enter Tryz.func59, Tryz.ntmps59
    go_wp2_with fail
    go_ret
    exact ⟨none, 0, 0, rfl, Nat.le_refl _, World.ownsRow_nil _ _ _ _, allB_nil, Below.refl _ _⟩
  · clear hL
    have B1 : Hid (Below w.heap.size w (w.alloc (.cells #[] 5))) := Lib.hid ((Below.refl _ _).alloc (Nat.le_refl _) _)
    have eq1 := eql_nil (some a) n c w
    simp only [Option.isNone] at eq1
    have O1 : Hid (Own w (.slice (some ⟨w.heap.size, 0, none⟩) 0 0) 0 [] (w.alloc (.cells #[] 5))) := Lib.hid (Own.made (Below.refl _ _) #[] 0 (by decide) rfl)
    go_enter Tryz.func59, Tryz.ntmps59
    go_wp2_with (first
      | (refine wpList_plain rfl fun _ hK => wp_lit0 rfl rfl (hK _ _ ?_))
      | (at_builtin; refine wpList_appB rfl _ _ rfl rfl O1.out rfl (HL.out.later B1.out) ?e1 ?_))
    case e1 => omega
    intro A' N c' w' h1 h2 h3
    have hN := h2.len
    rw [HL.out.len] at hN
    subst hN
    have H2 := Lib.hid h2
    clear h2 h3
    go_wp2_with fail
    go_ret
    exact ⟨A', _, c', rfl, h1, H2.out⟩
end Go.Proofs.YtjcphpmlekfhdaaGreatDoor

/- What Write and Cut do to their file. No condition but bounds. -/
namespace Go.Proofs.YtjcphpmlekfhdaaGreatDoor
open Go.RowKit

theorem FlAt.step {w0 w w1 W : World} {P : Nat → Prop} {vs vl : Value} {S : Fl} (F : FlAt w0 (Gr (Gr P w w1) w1 W) vs vl S W) (h1 : w.heap.size ≤ w1.heap.size) (h2 : w1.heap.size ≤ W.heap.size) : FlAt w0 (Gr P w W) vs vl S W :=
  F.more (Gr.step h1 h2) fun k h => by
    rcases h with h | h
    · exact F.lt k (.inl (.inl h))
    · rcases Nat.lt_or_ge k w1.heap.size with h3 | h3
      · exact F.lt k (.inl (.inr ⟨h.1, h3⟩))
      · exact F.lt k (.inr ⟨h3, h.2⟩)
/-- New memory beside a file. -/
theorem FlAt.grow {w0 w w1 : World} {P : Nat → Prop} {vs vl : Value} {S : Fl} (F : FlAt w0 P vs vl S w) (g : Below w.heap.size w w1) : FlAt w0 (Gr P w w1) vs vl S w1 := by
  have hb : Below w0.heap.size w0 w1 := F.sure.bel.trans (g.mono F.sure.bel.size)
  exact (F.keep (Kept.of_below g) hb).more (fun k h => .inl h) (Gr.lt F F.sure.bel g.size)
theorem kept_two {w w1 W : World} {P : Nat → Prop} {d : Nat} (g : Below w.heap.size w w1) (K : Kept (fun b => ¬ Gr P w w1 b ∧ b ≠ d) w1 W) : Kept (fun b => ¬ P b ∧ b ≠ d) w W :=
  ⟨Nat.le_trans g.size K.size, fun b hb hl => by rw [K.blk b ⟨Gr.not hb.1 hl, hb.2⟩ (Nat.lt_of_lt_of_le hl g.size), g.block b hl]⟩
theorem set_same {cur : List Value} {o : Nat} {v : Value} (c0 : cur[o]? = some v) : cur.set o v = cur := by
  apply List.ext_getElem?
  intro j
  rw [List.getElem?_set]
  split
  · next h => subst h; rw [c0]; simp [(List.getElem?_eq_some_iff.1 c0).1]
  · rfl
/-- A clone is an element for a write. -/
theorem clone_chg {w0 w w1 : World} {P : Nat → Prop} {vs vl : Value} {S : Fl} {A : Option Addr} {L : List Nat} {c : Nat} (F : FlAt w0 P vs vl S w) (hO : Own w (.slice A L.length c) L.length L w1) (hc : L.length ≤ c) (hl : L.length ≤ 4194304) :
    ChgR w1 (fun b => Gr P w w1 b ∧ some b ≠ vs.ownBlock ∧ some b ≠ vl.ownBlock) [wV A L.length c] (.w L) := by
  refine ⟨A, c, rfl, ⟨hO.reads, fun _ a e => ?_⟩, hc, hl, ?_⟩
  · subst e
    have h := hO.new a.block rfl
    exact ⟨.inr h, fun e => by have := (F.lt _ (F.ps _ e.symm)).2; omega, fun e => by have := (F.lt _ (F.pl _ e.symm).1).2; omega⟩
  · rcases hO.row.2 with ⟨e, _⟩ | ⟨g, cap, cur, e, _, _, _, h, _⟩
    · injection e with _ _ e; omega
    · injection e with _ _ e
      unfold maxLen at h
      omega

set_option maxRecDepth 100000 in
set_option maxHeartbeats 4000000 in
theorem write1_any {w0 w : World} {P : Nat → Prop} {vs vl : Value} {S : Fl} {d o bx : Nat} {T TB : TypeId} {cur : List Value} {A : Option Addr} {c sz : Nat} {L : List Nat} (F : FlAt w0 P vs vl S w) (R : Ro w d T cur) (hd : ¬ P d) (hw : w0.heap.size ≤ d)
    (c0 : cur[o]? = some vs) (c1 : cur[o + 1]? = some vl) (c2 : cur[o + 2]? = some (.int .i64 (sz : Nat))) (hn : S.loose.length ≤ 1073741823) (hsz : sz ≤ 1099511627776) (hb : Ro w bx TB [.slice A L.length c]) (hL : Bs w A L.length L) (hl : L.length ≤ 4194304) (hc : L.length ≤ c) :
    Calls Tryz.prog 82 #[.pointer (some ⟨d, o, none⟩), .pointer (some ⟨bx, 0, none⟩)] w fun e W => e = .returned (.tuple #[]) ∧ Fil w0 P w d o T cur (S.add (.w L)) ((sz + L.length : Nat) : Int) W := by
  have hlen : o + 2 < cur.length := (List.getElem?_eq_some_iff.1 c2).1
  have bd : Below w.heap.size w w.drew := (Below.refl _ _).drew
  have C1 : Hid (Calls Tryz.prog 59 #[.slice A L.length c] w.drew fun e w1 => ∃ A1 c1, e = .returned (.slice A1 L.length c1) ∧ w1.cell? ⟨bx, 0, none⟩ = some (.slice A L.length c) ∧ w1.cell? ⟨d, o + 2, none⟩ = some (.int .i64 (sz : Nat)) ∧
      Hid (Calls Tryz.prog 83 #[.pointer (some ⟨d, o, none⟩), .iface 127 (.agg #[.slice A1 L.length c1]), .int .i64 (IntKind.i64.wrap ((sz : Int) + (L.length : Int)))] w1 fun e W => e = .returned (.tuple #[]) ∧ Fil w0 P w d o T cur (S.add (.w L)) ((sz + L.length : Nat) : Int) W)) :=
    Lib.hid ((clone_any (hL.later bd) (by omega) hc).mono fun e w1 ⟨A1, n1, c1', e1, hc1, hO1⟩ => by
      have hO : Own w (.slice A1 n1 c1') n1 L w1 := hO1.weaken bd
      have hn1 : L.length = n1 := hO.len
      subst hn1
      have g1 := hO.bel
      have R1 := R.later g1
      refine ⟨A1, c1', e1, (hb.later g1).cell rfl, R1.cell c2, Lib.hid ?_⟩
      have ew : IntKind.i64.wrap ((sz : Int) + (L.length : Int)) = ((sz + L.length : Nat) : Int) := by rw [IntKind.wrap_i64]; omega
      rw [ew]
      refine (add_any (F.grow g1) R1 (Gr.not hd R.lt) hw c1 hlen hn (clone_chg F hO hc1 hl)).mono fun e W ⟨h1, vl', h2, h3, h4⟩ => ⟨h1, ⟨vs, vl', h2.step g1.size h4.size, ?_⟩, kept_two g1 h4⟩
      rw [set_same c0]
      exact h3)
  have q1 := (hb.later bd).cell (k := 0) rfl
  have q2 := (R.later bd).cell c2
  clear F R hd hw c0 c1 c2 hn hb hL hlen bd
  go_enter Tryz.func82, Tryz.ntmps82
  go_wp2_with fail
  go_region_law (first
    | (go_simp; (with_reducible refine (C1.out).mono ?_); rintro e w1 ⟨A1, c1, rfl, p1, p2, C2⟩; go_simp)
    | (go_simp; (with_reducible refine (C2.out).mono ?_); rintro e W ⟨rfl, G⟩; go_simp))
  all_goals go_wp2_with fail
  all_goals go_returns
  all_goals exact ⟨rfl, G⟩
end Go.Proofs.YtjcphpmlekfhdaaGreatDoor

/- lose: so many units made sure, the others lost. No condition but bounds. -/
namespace Go.Proofs.YtjcphpmlekfhdaaGreatDoor
open Go.RowKit

theorem unW (A : Option Addr) (n c : Nat) (w : World) : (method 282 127 (.agg #[.slice A n c]) "scantling/disk.units").run Tryz.prog w = .ok (134, .agg #[.slice A n c]) w := by kernel_rfl
theorem unC (k : Int) (w : World) : (method 282 131 (.agg #[.int .i64 k]) "scantling/disk.units").run Tryz.prog w = .ok (137, .agg #[.int .i64 k]) w := by kernel_rfl
theorem fiW (A : Option Addr) (n c : Nat) (w : World) : (method 282 127 (.agg #[.slice A n c]) "scantling/disk.first").run Tryz.prog w = .ok (133, .agg #[.slice A n c]) w := by kernel_rfl
theorem fiC (k : Int) (w : World) : (method 282 131 (.agg #[.int .i64 k]) "scantling/disk.first").run Tryz.prog w = .ok (136, .agg #[.int .i64 k]) w := by kernel_rfl

/-- What the rounds hand on: k changes stay whole. -/
structure LoseAt (w0 : World) (P : Nat → Prop) (w : World) (d : Nat) (T : TypeId) (cur : List Value) (vs vl : Value) (S : Fl) (kept : Int) (k : Nat) (q : Int) (wr : World) : Prop where
  fl : FlAt w0 (Gr P w wr) vs vl S wr
  ro : Ro wr d T cur
  bel : Below w.heap.size w wr
  so : loseL kept S.loose = S.loose.take k ++ loseL q (S.loose.drop k)
  lo : -9223372036854775808 ≤ q ∧ q ≤ 9223372036854775807
theorem LoseAt.start {w0 w : World} {P : Nat → Prop} {vs vl : Value} {S : Fl} {d : Nat} {T : TypeId} {cur : List Value} {kept : Int} (F : FlAt w0 P vs vl S w) (R : Ro w d T cur) (h : -9223372036854775808 ≤ kept ∧ kept ≤ 9223372036854775807) : LoseAt w0 P w d T cur vs vl S kept 0 kept w :=
  ⟨F.more (fun k h => .inl h) (Gr.lt F F.sure.bel (Nat.le_refl _)), R, Below.refl _ _, by simp, h⟩

theorem nth_take {L : List Nat} {u j : Nat} (h : j < u) : nth (L.take u) j = nth L j := by simp [nth, List.getD, h]
def appC (args : Array Value) : Sem Value := Builtin.append_ #[59, 59] 59 args
theorem appC_mark (args : Array Value) : Builtin.append_ #[59, 59] 59 args = appC args := rfl
attribute [local go_sem ↓] appC_mark

/-- Behind the loop. -/
def LoseEx (w0 : World) (P : Nat → Prop) (w : World) (d o : Nat) (T : TypeId) (cur : List Value) (vs : Value) (S : Fl) (kept : Int) (W : World) : Prop :=
  ∃ vl, FlAt w0 (Gr P w W) vs vl ⟨S.sure, loseL kept S.loose⟩ W ∧ Ro W d T (cur.set (o + 1) vl) ∧ Kept (fun b => ¬ P b ∧ b ≠ d) w W
theorem FlAt.short {w0 w : World} {P : Nat → Prop} {vs : Value} {A : Option Addr} {n c : Nat} {S : Fl} (F : FlAt w0 P vs (.slice A S.loose.length c) S w) (hn : S.loose.length = n) {k : Nat} (hk : k ≤ n) : FlAt w0 P vs (.slice A k c) ⟨S.sure, S.loose.take k⟩ w := by
  have e : (Value.slice A k c).ownBlock = (Value.slice A S.loose.length c).ownBlock := by cases A <;> rfl
  have h := F.loose.short (k := k) (by omega)
  have hl : (S.loose.take k).length = k := by rw [List.length_take]; omega
  exact ⟨F.sure, by rw [hl]; exact h, F.ps, fun q h => F.pl q (by rw [← e]; exact h), F.lt⟩
theorem lose_len : ∀ (l : List Chg) (k : Int), (loseL k l).length ≤ l.length
  | [], _ => Nat.le_refl _
  | c :: l, k => by
    unfold loseL
    split
    · simp
    · have := lose_len l (k - units c)
      simp only [List.length_cons]
      omega
section
variable {w0 w wr : World} {P : Nat → Prop} {vs vl : Value} {S : Fl} {d o : Nat} {T : TypeId} {cur : List Value} {kept z : Int} {k g c : Nat} {x : Chg}
theorem LoseAt.next (J : LoseAt w0 P w d T cur vs vl S kept k z wr) (hx : S.loose[k]? = some x) (hz : ¬ z < (units x : Int)) {w2 : World} (b : Below wr.heap.size wr w2) : LoseAt w0 P w d T cur vs vl S kept (k + 1) (z - units x) w2 := by
  have hlt := (List.getElem?_eq_some_iff.1 hx).1
  have hs := J.bel.size
  refine ⟨(J.fl.grow b).step hs b.size, J.ro.later b, J.bel.trans (b.mono hs), ?_, ?_⟩
  · rw [J.so, List.take_add_one, hx, List.append_assoc]
    congr 1
    rw [List.drop_eq_getElem_cons hlt]
    have : S.loose[k] = x := by simpa [hlt] using hx
    rw [this]
    conv => lhs; unfold loseL
    rw [if_neg hz]
    rfl
  · have := J.lo
    omega
theorem LoseAt.ends (J : LoseAt w0 P w d T cur vs vl S kept k z wr) (hk : S.loose.length ≤ k) (c1 : cur[o + 1]? = some vl) : LoseEx w0 P w d o T cur vs S kept wr := by
  have e : loseL kept S.loose = S.loose := by
    rw [J.so, List.take_of_length_le hk, List.drop_eq_nil_of_le hk]
    simp [loseL]
  refine ⟨vl, by rw [e]; exact J.fl, by rw [set_same c1]; exact J.ro, J.bel.size, fun b _ hl => J.bel.block b hl⟩
set_option maxHeartbeats 1000000 in
theorem LoseAt.last (J : LoseAt w0 P w d T cur vs (.slice (some ⟨g, 0, none⟩) S.loose.length c) S kept k z wr) (hd : ¬ P d) (hw : w0.heap.size ≤ d) (hdl : d < w.heap.size) (c1 : cur[o + 1]? = some (.slice (some ⟨g, 0, none⟩) S.loose.length c)) (hx : S.loose[k]? = some x) (hz : z < (units x : Int)) (hn : S.loose.length ≤ 1073741823)
    {w2 : World} (b : Below wr.heap.size wr w2) {ty : TypeId} {u : Value} (hV : ChgR w2 (fun b => Gr P w wr b ∧ some b ≠ vs.ownBlock ∧ some b ≠ (Value.slice (some ⟨g, 0, none⟩) S.loose.length c).ownBlock) [.iface ty u] (firstC (max z 0).toNat x)) :
    ∃ A' c' w4, (appC #[.slice (some ⟨g, 0, none⟩) k c, .slice (some ⟨w2.heap.size, 0, none⟩) 1 1]).run Tryz.prog (w2.alloc (.cells #[.iface ty u] 106)) = .ok (.slice A' (k + 1) c') w4 ∧
      w4.cell? ⟨d, o + 1, none⟩ = some (.slice (some ⟨g, 0, none⟩) S.loose.length c) ∧ w4.frozen? ⟨d, o + 1, none⟩ = false ∧ Hid (LoseEx w0 P w d o T cur vs S kept (w4.setCell ⟨d, o + 1, none⟩ (.slice A' (k + 1) c'))) := by
  have hlt := (List.getElem?_eq_some_iff.1 hx).1
  have hs := J.bel.size
  obtain ⟨w3, hw3⟩ : ∃ w3, w2.alloc (.cells #[.iface ty u] 106) = w3 := ⟨_, rfl⟩
  have b3 : Below w2.heap.size w2 w3 := by rw [← hw3]; exact (Below.refl _ _).alloc (Nat.le_refl _) _
  have bb : Below wr.heap.size wr w3 := b.trans (b3.mono b.size)
  have F3 := (J.fl.grow bb).step hs bb.size
  have R3 := J.ro.later bb
  have F4 := F3.short rfl (Nat.le_of_lt hlt)
  have eo : (Value.slice (some ⟨g, 0, none⟩) k c).ownBlock = (Value.slice (some ⟨g, 0, none⟩) S.loose.length c).ownBlock := rfl
  have hl : (S.loose.take k).length = k := by rw [List.length_take]; omega
  have OL := F4.loose
  simp only [hl] at OL
  have hV3 := chgM.keep hV (Kept.of_below b3)
  have hrow : w3.rangeAt w2.heap.size 0 [.iface ty u] := by
    rw [← hw3]
    intro j q hj
    have := (Ro.new w2 106 [.iface ty u]).cell (k := j) hj
    rwa [Nat.zero_add]
  obtain ⟨A', c', w4, r1, r2, r3, r4, r5⟩ := run_appRw (c := 1) (m := 1) (k := [firstC (max z 0).toNat x]) (cs := [.iface ty u]) elemChg chgM 59 OL rfl (fun _ => ⟨_, _, rfl, hrow⟩)
    (Each.one rfl (chgM.weak hV3 fun q hq hl2 => ⟨⟨by
      rcases hq.1 with h | h
      · exact .inl h
      · exact .inr ⟨h.1, by have := bb.size; omega⟩, hq.2.1⟩, hq.2.2, hl2⟩)) (fun q hq => by simp at hq; rw [hq]; rfl) (by omega) (by omega)
  rw [eo] at r3 r5
  have nd : some d ≠ (Value.slice (some ⟨g, 0, none⟩) S.loose.length c).ownBlock := fun e => Gr.not hd hdl (F3.pl d e.symm).1
  have R4 := R3.far r3 nd
  have F5 := F4.added (x := firstC (max z 0).toNat x) r3 (by
    rcases r5 with q | q
    · exact .inl q
    · refine .inr fun y e => ?_
      rw [q] at e
      injection e with e
      omega) r2
  have F6 := F5.step (Nat.le_trans hs bb.size) r3.size
  have es : (⟨S.sure, S.loose.take k⟩ : Fl).add (firstC (max z 0).toNat x) = ⟨S.sure, loseL kept S.loose⟩ := by
    unfold Fl.add
    rw [J.so, List.drop_eq_getElem_cons hlt]
    have : S.loose[k] = x := by simpa [hlt] using hx
    have e3 : loseL z (x :: S.loose.drop (k + 1)) = [firstC (max z 0).toNat x] := by unfold loseL; rw [if_pos hz]
    rw [this, e3]
  rw [es] at F6
  refine ⟨A', c', w4, by rw [hw3]; exact r1, R4.cell c1, R4.free _, Lib.hid ⟨_, F6.set hd hdl hw _ _, R4.set _ _, ?_⟩⟩
  refine kept_step ⟨by have := r3.size; have := bb.size; omega, fun y hy hyl => ?_⟩ _ _
  rw [r3.block y (by have := bb.size; omega) (fun e => by
    rcases (F3.pl y e.symm).1 with h | h
    · exact hy.1 h
    · omega), bb.block y (by omega), J.bel.block y hyl]
end
theorem set_swap {cur : List Value} {o : Nat} {a b c : Value} : ((cur.set (o + 1) a).set o b).set (o + 1) c = (cur.set o b).set (o + 1) c := by
  rw [List.set_comm _ _ (show o + 1 ≠ o by omega), List.set_set]
theorem settle_ex {w0 w wr : World} {P : Nat → Prop} {vs : Value} {S : Fl} {d o : Nat} {T : TypeId} {cur : List Value} {kept : Int} (E : LoseEx w0 P w d o T cur vs S kept wr) (hd : ¬ P d) (hw : w0.heap.size ≤ d) (hdl : d < w.heap.size) (c0 : cur[o]? = some vs) (hl : o + 2 < cur.length)
    (hf : Fits 4194304 S.sure S.loose) (hn : S.loose.length ≤ 1073741823) :
    Calls Tryz.prog 78 #[.pointer (some ⟨d, o, none⟩)] wr fun e W => e = .returned (.tuple #[]) ∧ Fil w0 P w d o T cur (S.lose kept) ((S.lose kept).sure.length : Nat) W := by
  obtain ⟨vl, F, R, K⟩ := E
  have hs := K.size
  refine (settle_any F R (Gr.not hd hdl) hw (by rw [List.getElem?_set_ne (by omega)]; exact c0) (List.getElem?_set_self (by omega)) (by simpa using hl) (Fits.lose kept hf) (by have := lose_len S.loose kept; simp only; omega)).mono fun e W ⟨h1, ⟨vs', vl', h2, h3⟩, h4⟩ => ⟨h1, ⟨vs', vl', ?_, ?_⟩, ?_⟩
  · exact h2.step hs h4.size
  · rw [set_swap] at h3
    exact h3
  · exact ⟨Nat.le_trans hs h4.size, fun b hb hbl => by rw [h4.blk b ⟨Gr.not hb.1 hbl, hb.2⟩ (by omega), K.blk b hb hbl]⟩

set_option maxRecDepth 100000 in
set_option maxHeartbeats 8000000 in
theorem lose_any {w0 w : World} {P : Nat → Prop} {vs vl : Value} {S : Fl} {d o : Nat} {T : TypeId} {cur : List Value} {kept : Int} (F : FlAt w0 P vs vl S w) (R : Ro w d T cur) (hd : ¬ P d) (hw : w0.heap.size ≤ d)
    (c0 : cur[o]? = some vs) (c1 : cur[o + 1]? = some vl) (hl : o + 2 < cur.length) (hf : Fits 4194304 S.sure S.loose) (hn : S.loose.length ≤ 1073741823) (hk : -9223372036854775808 ≤ kept ∧ kept ≤ 9223372036854775807) :
    Calls Tryz.prog 44 #[.pointer (some ⟨d, o, none⟩), .int .i64 kept] w fun e W => e = .returned (.tuple #[]) ∧ Fil w0 P w d o T cur (S.lose kept) ((S.lose kept).sure.length : Nat) W := by
  have RC1 := R.cell c1
  obtain ⟨A, c, rfl, hc⟩ := F.loose.shape
  have HF := Lib.hid F
  have HR := Lib.hid R
  clear F R
  go_enter Tryz.func44, Tryz.ntmps44
  go_wp2_with fail
  have ND := Lib.hid hd
  have NW := Lib.hid hw
  have CE : Hid (∀ wr, LoseEx w0 P w d o T cur vs S kept wr → Calls Tryz.prog 78 #[.pointer (some ⟨d, o, none⟩)] wr fun e W => e = .returned (.tuple #[]) ∧ Fil w0 P w d o T cur (S.lose kept) ((S.lose kept).sure.length : Nat) W) :=
    Lib.hid fun wr E => settle_ex E hd hw HR.out.lt c0 hl hf hn
  go_loopw [1, 11] (fun q i wr => ∃ (k : Nat) (z : Int), k ≤ S.loose.length ∧ q = .int .i64 z ∧ i = .int .i64 (k : Nat) ∧ LoseAt w0 P w d T cur vs (.slice A S.loose.length c) S kept k z wr) (fun _ i _ => S.loose.length - (intOf i).toNat)
  case atStart => exact ⟨0, kept, Nat.zero_le _, rfl, rfl, LoseAt.start HF.out HR.out hk⟩
  case round =>
    obtain ⟨k, z, hk2, rfl, rfl, J⟩ := hrel
    have HJ := Lib.hid J
    clear J
    by_cases hlt : k < S.loose.length
    · obtain ⟨g, c', V, e1, hc', CV, RV⟩ := HJ.out.fl.at_ (i := k) hlt
      injection e1 with e1 _ e2
      subst e1 e2
      obtain ⟨x, hx⟩ : ∃ x, S.loose[k]? = some x := ⟨_, List.getElem?_eq_getElem hlt⟩
      have hx' : S.loose[k] = x := by simpa [hlt] using hx
      rw [hx'] at RV
      have HX := Lib.hid hx
      clear hx hx' hd hw
      have lo := HJ.out.lo
      cases x with
      | w L =>
        obtain ⟨A', c', e2, hL, hc2, hc3, hc4⟩ := RV
        obtain rfl : V = wV A' L.length c' := by simpa using e2
        unfold wV at *
        have mw := unW A' L.length c'
        by_cases hz : z < (L.length : Int)
        · have t1 : decide (z < (L.length : Int)) = true := decide_eq_true hz
          go_wp2_with fail
          refine (writeUnits_any).mono ?_
          rintro e w1 ⟨rfl, hb1⟩
          obtain ⟨u, hu⟩ : ∃ u, (max z 0).toNat = u := ⟨_, rfl⟩
          have hu' : max z 0 = (u : Int) := by omega
          have bd := hb1.drew
          have q1 := (HJ.out.ro.later bd).cell c1
          have CF : Hid (Calls Tryz.prog 133 #[.agg #[.slice A' L.length c'], .int .i64 (if z < 0 then 0 else z)] w1.drew fun e w2 => e = .returned (.iface 127 (.agg #[.slice A' u c'])) ∧ w2.cell? ⟨d, o + 1, none⟩ = some (.slice (some ⟨g, 0, none⟩) S.loose.length c) ∧
              (w2.alloc (.cells #[.iface 127 (.agg #[.slice A' u c'])] 106)).cell? ⟨d, o + 1, none⟩ = some (.slice (some ⟨g, 0, none⟩) S.loose.length c) ∧
              ∃ A2 c2 w4, (appC #[.slice (some ⟨g, 0, none⟩) k c, .slice (some ⟨w2.heap.size, 0, none⟩) 1 1]).run Tryz.prog (w2.alloc (.cells #[.iface 127 (.agg #[.slice A' u c'])] 106)) = .ok (.slice A2 (k + 1) c2) w4 ∧
                w4.cell? ⟨d, o + 1, none⟩ = some (.slice (some ⟨g, 0, none⟩) S.loose.length c) ∧ w4.frozen? ⟨d, o + 1, none⟩ = false ∧ Hid (LoseEx w0 P w d o T cur vs S kept (w4.setCell ⟨d, o + 1, none⟩ (.slice A2 (k + 1) c2)))) :=
            Lib.hid (by
             rw [show (if z < 0 then 0 else z) = (u : Int) by split <;> omega]
             exact (writeFirst_any (k := u) (by omega) hc2).mono fun e w2 ⟨h1, h2⟩ => by
              have b2 := bd.trans (h2.mono bd.size)
              have R2 := HJ.out.ro.later b2
              refine ⟨h1, R2.cell c1, (R2.alloc _).cell c1, HJ.out.last ND.out NW.out HR.out.lt c1 HX.out hz hn b2 ?_⟩
              rw [hu]
              have hk2 := hL.keep (Kept.of_below b2)
              have ht := hk2.bs.cut (c := c') (k := 0) (m := u) (by omega) hc2
              have hul : u ≤ L.length := by omega
              have hlen : (L.take u).length = u := by rw [List.length_take]; omega
              refine ⟨A', c', by rw [hlen]; rfl, ⟨?_, fun h0 a e => hk2.inP (by omega) a e⟩, by omega, by omega, hc4⟩
              rw [hlen]
              rw [List.drop_zero] at ht
              refine ⟨hlen, ht.byt, fun h0 => ?_⟩
              obtain ⟨a, ea, ha, hcel⟩ := hk2.bs.cel (by omega)
              exact ⟨a, ea, ha, fun j hj => by rw [hcel j (by omega), nth_take hj]⟩)
          have B1 := Lib.hid hb1
          have kc : k ≤ c := by omega
          have fw := fiW A' L.length c' w1.drew
          clear hb1 bd RC1
          go_wp2_with fail
          go_region_law (first | (go_simp; (with_reducible refine (CF.out).mono ?_); rintro e w2 ⟨rfl, p1, p2, A2, c2, w4, r1, p3, p4, EX⟩; go_simp))
          all_goals go_wp2_with fail
          all_goals refine (CE.out _ EX.out).mono ?_
          all_goals rintro e W ⟨rfl, G⟩
          all_goals go_wp2_with fail
          all_goals go_returns
          all_goals exact ⟨rfl, G⟩
        · have t1 : decide (z < (L.length : Int)) = false := decide_eq_false hz
          go_wp2_with fail
          refine (writeUnits_any).mono ?_
          rintro e w1 ⟨rfl, hb1⟩
          go_wp2_with fail
          refine (writeUnits_any).mono ?_
          rintro e w2 ⟨rfl, hb2⟩
          go_wp2_with fail
          go_roundw
          case rel => exact ⟨k + 1, z - (L.length : Nat), by omega, by go_num, by go_num, HJ.out.next HX.out (show ¬ z < (L.length : Int) by omega) (hb1.trans (hb2.mono hb1.size))⟩
          case measure => simp [intOf]; omega
      | c q =>
        obtain rfl : V = cV q := by simpa using RV.1
        unfold cV at *
        have mw := unC q
        by_cases hz : z < (1 : Int)
        · have t1 : decide (z < (1 : Int)) = true := decide_eq_true hz
          go_wp2_with fail
          refine (cutUnits_any).mono ?_
          rintro e w1 ⟨rfl, hb1⟩
          have bd := hb1.drew
          have q1 := (HJ.out.ro.later bd).cell c1
          have CF : Hid (Calls Tryz.prog 136 #[.agg #[.int .i64 (q : Nat)], .int .i64 (if z < 0 then 0 else z)] w1.drew fun e w2 => e = .returned (.iface 127 (.agg #[.slice none 0 0])) ∧ w2.cell? ⟨d, o + 1, none⟩ = some (.slice (some ⟨g, 0, none⟩) S.loose.length c) ∧
              (w2.alloc (.cells #[.iface 127 (.agg #[.slice none 0 0])] 106)).cell? ⟨d, o + 1, none⟩ = some (.slice (some ⟨g, 0, none⟩) S.loose.length c) ∧
              ∃ A2 c2 w4, (appC #[.slice (some ⟨g, 0, none⟩) k c, .slice (some ⟨w2.heap.size, 0, none⟩) 1 1]).run Tryz.prog (w2.alloc (.cells #[.iface 127 (.agg #[.slice none 0 0])] 106)) = .ok (.slice A2 (k + 1) c2) w4 ∧
                w4.cell? ⟨d, o + 1, none⟩ = some (.slice (some ⟨g, 0, none⟩) S.loose.length c) ∧ w4.frozen? ⟨d, o + 1, none⟩ = false ∧ Hid (LoseEx w0 P w d o T cur vs S kept (w4.setCell ⟨d, o + 1, none⟩ (.slice A2 (k + 1) c2)))) :=
            Lib.hid ((cutFirst_any).mono fun e w2 ⟨h1, h2⟩ => by
              have b2 := bd.trans (h2.mono bd.size)
              have R2 := HJ.out.ro.later b2
              refine ⟨h1, R2.cell c1, (R2.alloc _).cell c1, HJ.out.last ND.out NW.out HR.out.lt c1 HX.out hz hn b2 ?_⟩
              exact ⟨none, 0, rfl, BsP.nil _ _ _, Nat.le_refl _, by decide, by decide⟩)
          have B1 := Lib.hid hb1
          have kc : k ≤ c := by omega
          have fw := fiC q w1.drew
          clear hb1 bd RC1
          go_wp2_with fail
          go_region_law (first | (go_simp; (with_reducible refine (CF.out).mono ?_); rintro e w2 ⟨rfl, p1, p2, A2, c2, w4, r1, p3, p4, EX⟩; go_simp))
          all_goals go_wp2_with fail
          all_goals refine (CE.out _ EX.out).mono ?_
          all_goals rintro e W ⟨rfl, G⟩
          all_goals go_wp2_with fail
          all_goals go_returns
          all_goals exact ⟨rfl, G⟩
        · have t1 : decide (z < (1 : Int)) = false := decide_eq_false hz
          go_wp2_with fail
          refine (cutUnits_any).mono ?_
          rintro e w1 ⟨rfl, hb1⟩
          go_wp2_with fail
          refine (cutUnits_any).mono ?_
          rintro e w2 ⟨rfl, hb2⟩
          go_wp2_with fail
          go_roundw
          case rel => exact ⟨k + 1, z - 1, by omega, by go_num, by go_num, HJ.out.next HX.out (show ¬ z < (1 : Int) by omega) (hb1.trans (hb2.mono hb1.size))⟩
          case measure => simp [intOf]; omega
    · have EX := Lib.hid (HJ.out.ends (o := o) (by omega) c1)
      go_wp2_with fail
      refine (CE.out _ EX.out).mono ?_
      rintro e W ⟨rfl, G⟩
      go_wp2_with fail
      go_returns
      exact ⟨rfl, G⟩
end Go.Proofs.YtjcphpmlekfhdaaGreatDoor

/- What Cut does to its file. No condition but bounds. -/
namespace Go.Proofs.YtjcphpmlekfhdaaGreatDoor
open Go.RowKit

set_option maxRecDepth 100000 in
set_option maxHeartbeats 4000000 in
theorem cut1_any {w0 w : World} {P : Nat → Prop} {vs vl : Value} {S : Fl} {d o bx : Nat} {T TB : TypeId} {cur : List Value} {n : Nat} (F : FlAt w0 P vs vl S w) (R : Ro w d T cur) (hd : ¬ P d) (hw : w0.heap.size ≤ d)
    (c0 : cur[o]? = some vs) (c1 : cur[o + 1]? = some vl) (hlen : o + 2 < cur.length) (hn : S.loose.length ≤ 1073741823) (hb : Ro w bx TB [.int .i64 (n : Nat)]) (hl : n ≤ 4194304) :
    Calls Tryz.prog 86 #[.pointer (some ⟨d, o, none⟩), .pointer (some ⟨bx, 0, none⟩)] w fun e W => e = .returned (.tuple #[]) ∧ Fil w0 P w d o T cur (S.add (.c n)) (n : Nat) W := by
  have C2 : Hid (Calls Tryz.prog 83 #[.pointer (some ⟨d, o, none⟩), .iface 131 (.agg #[.int .i64 (n : Nat)]), .int .i64 (n : Nat)] w fun e W => e = .returned (.tuple #[]) ∧ Fil w0 P w d o T cur (S.add (.c n)) (n : Nat) W) :=
    Lib.hid ((add_any F R hd hw c1 hlen hn (show ChgR w _ [cV n] (.c n) from ⟨rfl, hl⟩)).mono fun e W ⟨h1, vl', h2, h3, h4⟩ => ⟨h1, ⟨vs, vl', h2, by rw [set_same c0]; exact h3⟩, h4⟩)
  have q1 := hb.cell (k := 0) rfl
  clear F R hd hw c0 c1 hn hb hlen
  go_enter Tryz.func86, Tryz.ntmps86
  go_wp2_with fail
  refine (C2.out).mono ?_
  rintro e W ⟨rfl, G⟩
  go_wp2_with fail
  go_returns
  exact ⟨rfl, G⟩
end Go.Proofs.YtjcphpmlekfhdaaGreatDoor
