/- The disk as lists and numbers: changes, files, calls. No memory. No condition. -/
import Derived.Test.YtgnomopiofpknaaSc
namespace Go.Proofs.Ytgnomopiofpknaa

inductive Chg where
  | w (b : List Nat)
  | c (n : Nat)
def doC (b : List Nat) : Chg → List Nat
  | .w x => b ++ x
  | .c n => b.take n
def appl (b : List Nat) (l : List Chg) : List Nat := l.foldl doC b
def units : Chg → Nat
  | .w x => x.length
  | .c _ => 1
def firstC (n : Nat) : Chg → Chg
  | .w x => .w (x.take n)
  | .c _ => .w []
def loseL : Int → List Chg → List Chg
  | _, [] => []
  | k, c :: l => if k < (units c : Int) then [firstC (max k 0).toNat c] else c :: loseL (k - units c) l
/-- The reference's way. -/
def doneS : List Nat → List Chg → Int → List Nat
  | s, [], _ => s
  | s, c :: l, u => if u ≤ 0 then s else match c with
    | .c n => doneS (s.take n) l (u - 1)
    | .w x => doneS (s ++ x.take (min u.toNat x.length)) l (u - (min u.toNat x.length : Nat))

theorem appl_nil (b : List Nat) : appl b [] = b := rfl
theorem appl_cons (b : List Nat) (c : Chg) (l : List Chg) : appl b (c :: l) = appl (doC b c) l := rfl
theorem appl_app (b : List Nat) (l m : List Chg) : appl b (l ++ m) = appl (appl b l) m := by simp [appl]
theorem appl_one (b : List Nat) (c : Chg) : appl b [c] = doC b c := rfl
theorem doneS_zero : ∀ (s : List Nat) (l : List Chg) (u : Int), u ≤ 0 → doneS s l u = s
  | s, [], _, _ => rfl
  | s, c :: l, u, h => by unfold doneS; rw [if_pos h]
theorem appl_lose : ∀ (l : List Chg) (s : List Nat) (k : Int), appl s (loseL k l) = doneS s l k
  | [], s, k => rfl
  | c :: l, s, k => by
    unfold loseL
    by_cases h : k < (units c : Int)
    · rw [if_pos h, appl_one]
      unfold doneS
      by_cases h0 : k ≤ 0
      · rw [if_pos h0]
        have : (max k 0).toNat = 0 := by omega
        rw [this]
        cases c <;> simp [firstC, doC]
      · rw [if_neg h0]
        cases c with
        | c n => simp only [units] at h; omega
        | w x =>
          simp only [units] at h
          have e1 : min k.toNat x.length = k.toNat := by omega
          have e2 : (max k 0).toNat = k.toNat := by omega
          show s ++ x.take (max k 0).toNat = doneS (s ++ x.take (min k.toNat x.length)) l (k - (min k.toNat x.length : Nat))
          rw [e1, e2, doneS_zero _ _ _ (by omega)]
    · rw [if_neg h, appl_cons, appl_lose l]
      by_cases h0 : k ≤ 0
      · rw [doneS_zero _ (c :: l) _ h0]
        have hu : units c = 0 := by omega
        rw [doneS_zero _ _ _ (by omega)]
        cases c with
        | c n => simp [units] at hu
        | w x =>
          obtain rfl : x = [] := List.eq_nil_of_length_eq_zero hu
          simp [doC]
      · conv => rhs; unfold doneS
        rw [if_neg h0]
        cases c with
        | c n => rfl
        | w x =>
          simp only [units] at h ⊢
          have e1 : min k.toNat x.length = x.length := by omega
          show doneS (s ++ x) l (k - (x.length : Nat)) = doneS (s ++ x.take (min k.toNat x.length)) l (k - (min k.toNat x.length : Nat))
          rw [e1, List.take_length]
def usum : List Chg → Nat
  | [] => 0
  | c :: l => units c + usum l
theorem usum_app (l m : List Chg) : usum (l ++ m) = usum l + usum m := by
  induction l with
  | nil => simp [usum]
  | cons c l ih => simp only [List.cons_append, usum, ih]; omega
theorem lose_all : ∀ (l : List Chg) (k : Int), (usum l : Int) ≤ k → loseL k l = l
  | [], _, _ => rfl
  | c :: l, k, h => by
    simp only [usum] at h
    unfold loseL
    rw [if_neg (by omega), lose_all l _ (by omega)]

/-- Every change finds what it needs: a cut leaves no more than there is, and no write goes beyond M. -/
def Fits (M : Nat) : List Nat → List Chg → Prop
  | b, [] => b.length ≤ M
  | b, c :: l => b.length ≤ M ∧ (match c with | .c n => n ≤ b.length | .w _ => True) ∧ Fits M (doC b c) l
theorem Fits.start {M : Nat} {b : List Nat} : ∀ {l : List Chg}, Fits M b l → b.length ≤ M
  | [], h => h
  | _ :: _, h => h.1
theorem Fits.last {M : Nat} : ∀ {l : List Chg} {b : List Nat}, Fits M b l → (appl b l).length ≤ M
  | [], _, h => h
  | c :: l, b, h => Fits.last (l := l) (b := doC b c) h.2.2
theorem Fits.app {M : Nat} : ∀ {l : List Chg} {b : List Nat} {c : Chg}, Fits M b l → (match c with | .c n => n ≤ (appl b l).length | .w _ => True) → (appl b (l ++ [c])).length ≤ M → Fits M b (l ++ [c])
  | [], _, _, h, h1, h2 => ⟨h, h1, h2⟩
  | _ :: _, _, _, h, h1, h2 => ⟨h.1, h.2.1, Fits.app h.2.2 h1 h2⟩
theorem Fits.lose {M : Nat} : ∀ {l : List Chg} {b : List Nat} (k : Int), Fits M b l → Fits M b (loseL k l)
  | [], _, _, h => h
  | c :: l, b, k, h => by
    unfold loseL
    by_cases hk : k < (units c : Int)
    · rw [if_pos hk]
      refine ⟨h.1, by cases c <;> trivial, ?_⟩
      have := Fits.start h.2.2
      have h1 := h.1
      cases c with
      | c n => simpa [firstC, Fits, doC] using h1
      | w x =>
        simp only [firstC, Fits, doC, List.length_append, List.length_take] at this ⊢
        omega
    · rw [if_neg hk]
      exact ⟨h.1, h.2.1, Fits.lose _ h.2.2⟩

structure Fl where
  sure : List Nat
  loose : List Chg
def Fl.at (x : Fl) : List Nat := appl x.sure x.loose
def Fl.add (x : Fl) (c : Chg) : Fl := ⟨x.sure, x.loose ++ [c]⟩
def Fl.settle (x : Fl) : Fl := ⟨x.at, []⟩
def Fl.lose (x : Fl) (k : Int) : Fl := ⟨appl x.sure (loseL k x.loose), []⟩
theorem Fl.at_add (x : Fl) (c : Chg) : (x.add c).at = doC x.at c := by simp [Fl.at, Fl.add, appl_app, appl_one]

structure Dk where
  most : Nat
  off : Bool
  fuse : Int
  f : Fl
  g : Fl
def Dk.at (d : Dk) (i : Nat) : Fl := if i = 0 then d.f else d.g
def Dk.put (d : Dk) (i : Nat) (x : Fl) : Dk := if i = 0 then { d with f := x } else { d with g := x }
def Dk.room (d : Dk) : Nat := d.most - d.f.at.length - d.g.at.length
/-- The error that a call of a file gives ahead of all else: 8, 1, or 0. -/
def Dk.ask (d : Dk) (f : Int) : Int := if d.off then 8 else if f < 0 ∨ 2 ≤ f then 1 else 0
/-- A counted call does x to file i. -/
def Dk.burn (d : Dk) (i : Nat) (x : Fl) : Int × Dk :=
  if d.fuse = 0 then (8, { d with off := true }) else (0, ({ d with fuse := if 0 < d.fuse then d.fuse - 1 else d.fuse } : Dk).put i x)
def Dk.write (d : Dk) (f : Int) (b : List Nat) : Int × Dk :=
  if d.ask f ≠ 0 then (d.ask f, d) else if d.room < b.length then (7, d) else d.burn f.toNat ((d.at f.toNat).add (.w b))
def Dk.cut (d : Dk) (f n : Int) : Int × Dk :=
  if d.ask f ≠ 0 then (d.ask f, d) else if n < 0 ∨ ((d.at f.toNat).at.length : Int) < n then (1, d) else d.burn f.toNat ((d.at f.toNat).add (.c n.toNat))
def Dk.sync (d : Dk) (f : Int) : Int × Dk :=
  if d.ask f ≠ 0 then (d.ask f, d) else d.burn f.toNat (d.at f.toNat).settle
def Dk.read (d : Dk) (f : Int) : List Nat × Int := if d.ask f ≠ 0 then ([], d.ask f) else ((d.at f.toNat).at, 0)
def Dk.setFuse (d : Dk) (n : Int) : Int × Dk := if d.off then (8, d) else (0, { d with fuse := max n (-1) })
def Dk.goOff (d : Dk) : Int × Dk := if d.off then (8, d) else (0, { d with off := true })
def pick (p : List Int) (i : Nat) : Int := p.getD i 0
def Dk.goOn (d : Dk) (p : List Int) : Int × Dk := if d.off then (0, { d with off := false, fuse := -1, f := d.f.lose (pick p 0), g := d.g.lose (pick p 1) }) else (3, d)
def newD (m : Nat) : Dk := ⟨m, false, -1, ⟨[], []⟩, ⟨[], []⟩⟩

/-- The bounds that a disk keeps. -/
structure Dk.Ok (d : Dk) : Prop where
  most : d.most ≤ 4194304
  f : Fits d.most d.f.sure d.f.loose
  g : Fits d.most d.g.sure d.g.loose
  fuse : -1 ≤ d.fuse ∧ d.fuse ≤ 9223372036854775807
  bf : AllB d.f.sure ∧ ∀ b, Chg.w b ∈ d.f.loose → AllB b
  bg : AllB d.g.sure ∧ ∀ b, Chg.w b ∈ d.g.loose → AllB b
end Go.Proofs.Ytgnomopiofpknaa
