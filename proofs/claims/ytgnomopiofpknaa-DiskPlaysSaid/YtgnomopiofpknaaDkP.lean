/- The bounds of a disk live on. No memory. No condition. -/
import Derived.Test.YtgnomopiofpknaaBurn
namespace Go.Proofs.Ytgnomopiofpknaa

theorem Fits.mono {M N : Nat} (h : M ≤ N) : ∀ {l : List Chg} {b : List Nat}, Fits M b l → Fits N b l
  | [], b, k => Nat.le_trans (show b.length ≤ M from k) h
  | c :: l, b, k => ⟨Nat.le_trans k.1 h, k.2.1, Fits.mono h (l := l) (b := doC b c) k.2.2⟩
theorem allB_appl : ∀ {l : List Chg} {b : List Nat}, AllB b → (∀ x, Chg.w x ∈ l → AllB x) → AllB (appl b l)
  | [], _, h, _ => h
  | c :: l, b, h, k => by
    rw [appl_cons]
    refine allB_appl ?_ fun x hx => k x (List.mem_cons_of_mem _ hx)
    cases c with
    | w x => exact h.app (k x (List.mem_cons_self ..))
    | c n => exact fun y hy => h y (List.mem_of_mem_take hy)
theorem allB_lose : ∀ {l : List Chg} {k : Int}, (∀ x, Chg.w x ∈ l → AllB x) → ∀ x, Chg.w x ∈ loseL k l → AllB x
  | [], _, _, x, hx => by cases hx
  | c :: l, k, h, x, hx => by
    unfold loseL at hx
    split at hx
    · rw [List.mem_singleton] at hx
      cases c with
      | w y =>
        injection hx with hx
        subst hx
        exact fun z hz => h y (List.mem_cons_self ..) z (List.mem_of_mem_take hz)
      | c n =>
        injection hx with hx
        subst hx
        exact allB_nil
    · rcases List.mem_cons.1 hx with e | e
      · exact h x (e ▸ List.mem_cons_self ..)
      · exact allB_lose (fun y hy => h y (List.mem_cons_of_mem _ hy)) x e
/-- What a file keeps. -/
structure Fl.Ok (M : Nat) (x : Fl) : Prop where
  f : Fits M x.sure x.loose
  b : AllB x.sure ∧ ∀ b, Chg.w b ∈ x.loose → AllB b
theorem Dk.Ok.at_ {d : Dk} (h : d.Ok) (i : Nat) : (d.at i).Ok d.most := by
  unfold Dk.at
  split
  · exact ⟨h.f, h.bf⟩
  · exact ⟨h.g, h.bg⟩
theorem Dk.Ok.put {d : Dk} (h : d.Ok) (i : Nat) {x : Fl} (k : x.Ok d.most) : (d.put i x).Ok := by
  unfold Dk.put
  split
  · exact { h with f := k.f, bf := k.b }
  · exact { h with g := k.f, bg := k.b }
theorem Fl.Ok.len {M : Nat} {x : Fl} (h : x.Ok M) : x.at.length ≤ M := h.f.last
theorem Fl.Ok.settle {M : Nat} {x : Fl} (h : x.Ok M) : x.settle.Ok M := ⟨h.f.last, allB_appl h.b.1 h.b.2, fun b hb => by cases hb⟩
theorem Fl.Ok.lose {M : Nat} {x : Fl} (h : x.Ok M) (k : Int) : (x.lose k).Ok M := ⟨(h.f.lose k).last, allB_appl h.b.1 (allB_lose h.b.2), fun b hb => by cases hb⟩
theorem Fl.Ok.addw {M : Nat} {x : Fl} (h : x.Ok M) {L : List Nat} (hL : AllB L) (hl : x.at.length + L.length ≤ M) : (x.add (.w L)).Ok M :=
  ⟨h.f.app trivial (by rw [appl_app, appl_one]; simpa [doC, Fl.at] using hl), h.b.1, fun b hb => by
    rcases List.mem_append.1 hb with e | e
    · exact h.b.2 b e
    · rw [List.mem_singleton] at e
      injection e with e
      subst e
      exact hL⟩
theorem Fl.Ok.addc {M : Nat} {x : Fl} (h : x.Ok M) {n : Nat} (hn : n ≤ x.at.length) : (x.add (.c n)).Ok M :=
  ⟨h.f.app hn (by
    rw [appl_app, appl_one]
    have := h.f.last
    simp only [doC, List.length_take]
    omega), h.b.1, fun b hb => by
    rcases List.mem_append.1 hb with e | e
    · exact h.b.2 b e
    · rw [List.mem_singleton] at e
      cases e⟩
theorem Dk.room_ok {d : Dk} {i : Nat} {n : Nat} (h : n ≤ d.room) (hp : 0 < n) : (d.at i).at.length + n ≤ d.most := by
  unfold Dk.room at h
  unfold Dk.at
  split <;> omega
theorem Dk.room_ok' {d : Dk} (h : d.Ok) {i : Nat} {n : Nat} (hn : n ≤ d.room) : (d.at i).at.length + n ≤ d.most := by
  rcases Nat.eq_zero_or_pos n with e | e
  · have := (h.at_ i).len
    omega
  · exact Dk.room_ok hn e
/-- How many changes are loose. -/
def Dk.cnt (d : Dk) : Nat := d.f.loose.length + d.g.loose.length
theorem Dk.cnt_at (d : Dk) (i : Nat) : (d.at i).loose.length ≤ d.cnt := by
  unfold Dk.at Dk.cnt
  split <;> omega
theorem Dk.cnt_put (d : Dk) (i : Nat) (x : Fl) (h : x.loose.length ≤ (d.at i).loose.length + 1) : (d.put i x).cnt ≤ d.cnt + 1 := by
  unfold Dk.at at h
  unfold Dk.put Dk.cnt
  split at h <;> simp_all <;> omega
theorem Dk.cnt_burn (d : Dk) (i : Nat) (x : Fl) (h : x.loose.length ≤ (d.at i).loose.length + 1) : (d.burn i x).2.cnt ≤ d.cnt + 1 := by
  unfold Dk.burn
  split
  · show d.cnt ≤ _
    omega
  · exact Dk.cnt_put d.less i x h
theorem Dk.Ok.burn {d : Dk} (h : d.Ok) (i : Nat) {x : Fl} (k : x.Ok d.most) : (d.burn i x).2.Ok := by
  unfold Dk.burn
  split
  · exact h.off true
  · exact h.less.put i k
end Go.Proofs.Ytgnomopiofpknaa
