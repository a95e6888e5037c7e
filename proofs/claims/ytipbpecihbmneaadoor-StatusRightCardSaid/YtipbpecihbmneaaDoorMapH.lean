/- A map of bools by hashes that the call made: the set of its keys. No condition. -/
import Derived.Test.YtipbpecihbmneaaDoorEs
import Derived.DeepKeys4
import Derived.Maps.Views
import Derived.Maps.OwnSet
import Derived.Maps.OwnOps
namespace Go.Proofs.YtipbpecihbmneaaDoor
open Go.RowKit

theorem rowEn : IsRow 29 33 := ⟨.inl ⟨_, Tryd.underlying29⟩, by kernel_rfl⟩
theorem zeroEn : ∀ w, (zeroValue 29).run Tryd.prog w = .ok (.agg (enV zeroE).toArray) w := fun w => by kernel_rfl
theorem Tryd.laidOut : laidOutB Tryd.prog = true := by kernel_rfl
theorem Tryd.rowHash : (27 : TypeId) < Tryd.prog.types.size := of_decide_eq_true (by kernel_rfl)
theorem Tryd.wideHash : (match Tryd.prog.underlying 27 with | some (.array _ _) | some (.struct _) => true | _ => false) = true := by rw [Tryd.underlying27]
theorem Tryd.lawHash : Go.WideMaps.KeyLaw Tryd.prog 27 := deep_law_laid Tryd.laidOut (m := 2) (by omega) Tryd.rowHash (by kernel_rfl) Tryd.wideHash
theorem Tryd.keyedHash : Go.Maps.Keyed Tryd.prog 27 := Go.Maps.Keyed.of_law Tryd.lawHash

theorem mapM_all {α β : Type} {f : α → Option β} : ∀ {l : List α}, (∀ x ∈ l, ∃ y, f x = some y) → ∃ ys, l.mapM f = some ys
  | [], _ => ⟨[], rfl⟩
  | x :: l, h => by
    obtain ⟨y, hy⟩ := h x (by simp)
    obtain ⟨ys, hys⟩ := mapM_all (l := l) (fun z hz => h z (by simp [hz]))
    exact ⟨y :: ys, by simp [hy, hys]⟩
theorem key_hash {X : List Nat} (hl : X.length = 32) (hb : AllB X) : ∃ l, keyOf Tryd.prog 27 (.agg (vals X).toArray) = some l := by
  have hs : (vals X).length = 32 := by rw [vals_length]; exact hl
  have hf : (Value.agg (vals X).toArray).formed Tryd.prog 27 = true := by
    simp [Value.formed, Tryd.underlying27, show Tryd.prog.cellsOf 27 = 32 from by kernel_rfl, hs]
  have hk : Tryd.prog.keyType 27 = true := by kernel_rfl
  obtain ⟨m, hm⟩ : ∃ m, Tryd.prog.types.size = m + 1 := ⟨_, (Nat.succ_pred_eq_of_pos (Nat.lt_of_le_of_lt (Nat.zero_le _) Tryd.rowHash)).symm⟩
  obtain ⟨ys, hys⟩ := mapM_all (f := fun i => Tryd.prog.keyLits (m + 1) 5 (((vals X).drop (i * 1)).take 1)) (l := List.range 32) (fun i hi => by
    have h1 := List.mem_range.1 hi
    have h2 : i < (vals X).length := by omega
    have e : ((vals X).drop (i * 1)).take 1 = [.int .u8 (nth X i : Nat)] := by
      rw [Nat.mul_one, List.drop_eq_getElem_cons h2, List.take_succ_cons, List.take_zero]
      have := vals_get X i (by omega)
      rw [List.getElem?_eq_getElem h2] at this
      injection this with this
      rw [this]
    refine ⟨[.int .u8 (nth X i : Nat)], ?_⟩
    have hx : nth X i < 256 := hb _ (by unfold nth; rw [List.getD_eq_getElem?_getD, List.getElem?_eq_getElem (show i < X.length by omega)]; exact List.getElem_mem _)
    rw [e]
    unfold Program.keyLits
    simp only [Tryd.underlying5]
    rw [if_pos ⟨trivial, by
      show (decide (IntKind.u8.min ≤ ((nth X i : Nat) : Int)) && decide (((nth X i : Nat) : Int) ≤ IntKind.u8.max)) = true
      rw [show IntKind.u8.min = 0 from by decide, show IntKind.u8.max = 255 from by decide, decide_eq_true (by omega), decide_eq_true (by omega)]
      rfl⟩])
  unfold keyOf
  simp only [Tryd.underlying27, hk, hf, Bool.and_self, if_true, hm, Value.cells]
  rw [show Tryd.prog.keyLits (m + 1 + 1) 27 (vals X) = some ys.flatten from by
    unfold Program.keyLits
    simp only [Tryd.underlying27, show Tryd.prog.cellsOf 27 = 32 from by kernel_rfl, show Tryd.prog.cellsOf 5 = 1 from by kernel_rfl]
    rw [if_pos hs, hys]; rfl]
  exact ⟨_, rfl⟩

theorem plain_bool_inv {v : Value} {x : Bool} {ps : List MemPlace} (h : plainElem (H := Unit) Tryd.prog 4 v = some (.lit (.bool x), ps)) : v = .bool x := by
  unfold plainElem at h
  rw [Tryd.underlying4] at h
  cases v <;> simp at h
  rw [h.1]
/-- Block b is a map whose keys are those of S, each with true. -/
def MH (w : World) (b n : Nat) (S : List (List Nat)) : Prop :=
  ∃ D : DataW Unit, w.ownsMap Tryd.prog 27 (plainElem Tryd.prog 4) b n D ∧ ∀ X, X.length = 32 → AllB X → ∀ l, keyOf Tryd.prog 27 (.agg (vals X).toArray) = some l → D.atKey l (.lit (.bool false)) = .lit (.bool (decide (X ∈ S)))
section
variable {w w1 : World} {b n : Nat} {S : List (List Nat)} {X : List Nat}
theorem MH.lt (h : MH w b n S) : b < w.heap.size := by
  obtain ⟨D, h, _⟩ := h
  exact h.lt
theorem MH.later (h : MH w b n S) (g : Below w.heap.size w w1) : MH w1 b n S := by
  have hlt := h.lt
  obtain ⟨D, ⟨es, clock, hb, r⟩, h2⟩ := h
  exact ⟨D, ⟨es, clock, (g.block b hlt).trans hb, r⟩, h2⟩
theorem MH.made (w : World) : MH (w.alloc (.map #[] 0)) w.heap.size 0 [] := ⟨_, World.ownsMap_made w _ _ _, fun X _ _ l _ => by simp [DataW.atKey]⟩
theorem MH.look (h : MH w b n S) (hl : X.length = 32) (hX : AllB X) : (Instr.lookup 44 (.map (some b)) (.agg (vals X).toArray) false).run Tryd.prog w = .ok (.bool (decide (X ∈ S))) w := by
  obtain ⟨D, h1, h2⟩ := h
  obtain ⟨l, hk⟩ := key_hash hl hX
  obtain ⟨v, ps, e1, e2⟩ := h1.lookup Tryd.keyedHash Tryd.underlying44 (z := .bool false) (by kernel_rfl) (plainElem_bool Tryd.underlying4 false) hk
  rw [h2 X hl hX l hk] at e2
  rw [e1, plain_bool_inv e2]
theorem MH.put (h : MH w b n S) (hn : n < maxLen) (hl : X.length = 32) (hX : AllB X) : ∃ w', (Instr.mapUpdate 44 (.map (some b)) (.agg (vals X).toArray) (.bool true)).run Tryd.prog w = .ok () w' ∧ MH w' b (n + 1) (S ++ [X]) ∧ w.grownBy w' (some b) := by
  obtain ⟨D, h1, h2⟩ := h
  obtain ⟨l, hk⟩ := key_hash hl hX
  obtain ⟨w', e1, e2, e3⟩ := h1.update Tryd.keyedHash Tryd.underlying44 hn (val := .bool true) hk (plainElem_bool Tryd.underlying4 true)
  refine ⟨w', e1, ⟨_, e2, fun Y hYl hY m hm => ?_⟩, e3⟩
  by_cases e : Y = X
  · subst e
    rw [hk] at hm
    injection hm with hm
    subst hm
    rw [Go.Maps.atKey_put_same h1.isMap (Tryd.keyedHash.key hk)]
    simp
  · rw [Go.Maps.atKey_put_other (fun q => e (by
      subst q
      have := Tryd.keyedHash.inj hm hk
      injection this with this
      exact vals_inj (by simpa using this))), h2 Y hYl hY m hm]
    simp [e]
end
section
variable {w : World} {ops : Array Oper} {rest : List Oper} {o : Oper} {a : Act} {Q : Exit → Act → World → Prop} {b n : Nat} {S : List (List Nat)} {X : List Nat}
theorem wpList_putH (hgd : o.guard = none) (m x : Operand) (ho : o.op = .mapUpdate 44 m x (.const (.bool true))) (hm : a.eval m = .map (some b)) (hx : a.eval x = .agg (vals X).toArray) (h : MH w b n S) (hn : n < maxLen) (hl : X.length = 32) (hX : AllB X)
    (hw : ∀ w', MH w' b (n + 1) (S ++ [X]) → w.grownBy w' (some b) → wpList Tryd.prog ops Q rest (a.put o.dst undef) w') : wpList Tryd.prog ops Q (o :: rest) a w := by
  refine wpList_plain hgd fun K hK => ?_
  obtain ⟨w', h1, h2, h3⟩ := h.put hn hl hX
  have e := hK _ _ (hw w' h2 h3)
  unfold Oper.wp execOp
  have hc : a.eval (.const (.bool true)) = .bool true := rfl
  simp only [ho, hm, hx, hc, Sem.run_bind, h1, Result.andThen_ok]
  exact e
end
section
variable {w : World} {o : Oper} {a : Act} {Q : Exit → Act → World → Prop} {K : Act → World → Prop} {T : TypeId} {n b k : Nat} {vs : List Value} {d : Option Tmp}
theorem wp_load_part (hd : o.dst = d) (x : Operand) (ho : o.op = .load T x) (hx : a.eval x = .pointer (some ⟨b, k, none⟩)) (hT : IsRow T n) (hr : w.rangeAt b k vs) (hl : vs.length = n) (h : K (a.put d (.agg vs.toArray)) w) : o.wp Tryd.prog a w K Q := by
  subst hd
  unfold Oper.wp execOp
  obtain ⟨⟨f, h1⟩ | ⟨j, e, h1⟩, h3⟩ := hT
  · simp only [ho, hx, Instr.loadAt, Instr.sureAddr, Sem.run_bind, Sem.run_pure, Result.andThen_ok, run_loadVar_mid w b k T vs _ hr h1 rfl (by rw [h3]; simp [hl])]
    exact h
  · simp only [ho, hx, Instr.loadAt, Instr.sureAddr, Sem.run_bind, Sem.run_pure, Result.andThen_ok, run_loadVar_mid w b k T vs _ hr h1 rfl (by rw [h3]; simp [hl])]
    exact h
end
end Go.Proofs.YtipbpecihbmneaaDoor
