/- What TxHollow looks at, over lists. No condition. -/
import Derived.Test.YtbdjcbdnhaddoaaDoorBackS
namespace Go.Proofs.YtbdjcbdnhaddoaaDoor
open Go.RowKit

theorem bare_le (t : TxD) : (bareS t).length ≤ (putS t).length := by
  unfold putS
  split
  · unfold bareS
    simp only [List.length_append, List.length_cons]
    omega
  · exact Nat.le_refl _
theorem plain_ok {t : TxD} (h : t.Ok) : (plain t).Ok := ⟨h.ver, fun i hi => by
  obtain ⟨j, hj, rfl⟩ := List.mem_map.1 hi
  have k := h.ins j hj
  exact ⟨k.h, k.hb, k.n, k.s, k.q, fun x hx => by cases hx⟩, h.outs, h.lock⟩
theorem plain_fit {t : TxD} (h : t.Fit) : (plain t).Fit := ⟨by unfold plain; rw [List.length_map]; exact h.ins, h.outs, fun i hi => by
  obtain ⟨j, hj, rfl⟩ := List.mem_map.1 hi
  exact ⟨(h.is j hj).1, (by decide : 0 < 18446744073709551616), fun x hx => by cases hx⟩, h.os⟩
theorem wit_plain (l : List InD) : witS (l.map fun i => withW i []) = List.replicate l.length 0 := by
  unfold witS
  induction l with
  | nil => rfl
  | cons x l ih => rw [List.map_cons, List.flatMap_cons, ih, List.length_cons, List.replicate_succ]; rfl
theorem body_plain (t : TxD) : bodyS (plain t) = bodyS t := by
  unfold bodyS plain insS
  rw [List.length_map, List.flatMap_map]
  rfl
/-- The bytes that say there is a Witness where there is none. -/
def hollowS (t : TxD) : List Nat := low 4 t.ver ++ (0 :: 1 :: (bodyS t ++ (List.replicate t.ins.length 0 ++ low 4 t.lock)))
theorem hollow_bad {t : TxD} (h : t.Ok) (f : t.Fit) (hl : (hollowS t).length ≤ 16384) : getE (hollowS t) = 5 := by
  have e : hollowS t = low 4 (plain t).ver ++ (0 :: 1 :: (bodyS (plain t) ++ (witS (plain t).ins ++ low 4 (plain t).lock))) := by
    unfold hollowS
    rw [body_plain]
    show _ = low 4 t.ver ++ (0 :: 1 :: (bodyS t ++ (witS (t.ins.map fun i => withW i []) ++ low 4 t.lock)))
    rw [wit_plain]
  refine get_bad hl (t := plain t) (r := []) (by rw [e]; exact txP_mark (plain_ok h) (plain_fit f) 1) ?_
  rw [put_plain]
  intro k
  have := congrArg List.length k
  unfold bareS hollowS at this
  simp only [List.length_append, List.length_cons, List.length_replicate] at this
  omega
/-- The bytes with a count that could be shorter. -/
def wideS (t : TxD) : List Nat := low 4 t.ver ++ (253 :: t.ins.length :: 0 :: (insS t.ins ++ (countS t.outs.length ++ (outsS t.outs ++ low 4 t.lock))))
theorem txP_wide {t : TxD} (h : t.Ok) (f : t.Fit) (hn : t.ins.length < 253) : txP (wideS t) = some (plain t, []) := by
  unfold txP wideS
  rw [numP_low 4 _ _ h.ver, Option.bind_some]
  have hm : marked (253 :: t.ins.length :: 0 :: (insS t.ins ++ (countS t.outs.length ++ (outsS t.outs ++ low 4 t.lock)))) = false := by
    unfold marked
    rw [Bool.and_eq_false_iff]
    exact .inr (decide_eq_false (by show ¬ (253 : Nat) = 0; decide))
  simp only [hm, Bool.false_eq_true, if_false]
  have hc : cntP (253 :: t.ins.length :: 0 :: (insS t.ins ++ (countS t.outs.length ++ (outsS t.outs ++ low 4 t.lock)))) = some (t.ins.length, insS t.ins ++ (countS t.outs.length ++ (outsS t.outs ++ low 4 t.lock))) := by
    unfold cntP
    rw [show numP 1 (253 :: t.ins.length :: 0 :: (insS t.ins ++ (countS t.outs.length ++ (outsS t.outs ++ low 4 t.lock)))) = some (253, t.ins.length :: 0 :: (insS t.ins ++ (countS t.outs.length ++ (outsS t.outs ++ low 4 t.lock)))) by simp [numP, takeP, valLE], Option.bind_some]
    simp only [if_true]
    have e : ∀ R, t.ins.length :: 0 :: R = low 2 t.ins.length ++ R := fun R => by
      simp only [low, List.cons_append, List.nil_append]
      rw [Nat.mod_eq_of_lt (by omega), Nat.div_eq_of_lt (by omega), Nat.zero_mod]
    rw [e]
    exact numP_low 2 _ _ (by omega)
  rw [hc, Option.bind_some]
  simp only
  rw [show listP inP t.ins.length (insS t.ins ++ (countS t.outs.length ++ (outsS t.outs ++ low 4 t.lock))) = some (t.ins.map fun i => withW i [], countS t.outs.length ++ (outsS t.outs ++ low 4 t.lock)) from listP_map t.ins _ fun i hi r => inP_in (h.ins i hi) (f.is i hi).1 r, Option.bind_some]
  simp only
  rw [cntP_count _ _ f.outs, Option.bind_some]
  simp only
  rw [show listP outP t.outs.length (outsS t.outs ++ low 4 t.lock) = some (t.outs, low 4 t.lock) from listP_flat t.outs _ fun o ho r => outP_out (h.outs o ho) (f.os o ho) r, Option.bind_some]
  simp only [Option.bind_some]
  rw [show low 4 t.lock = low 4 t.lock ++ [] from (List.append_nil _).symm, numP_low 4 _ _ h.lock]
  rfl
theorem bare_short {t : TxD} (hn : t.ins.length < 253) : bareS t = low 4 t.ver ++ (t.ins.length :: (insS t.ins ++ (countS t.outs.length ++ (outsS t.outs ++ low 4 t.lock)))) := by
  unfold bareS bodyS countS
  rw [if_pos hn]
  simp only [List.append_assoc, List.cons_append, List.nil_append]
theorem wide_bad {t : TxD} (h : t.Ok) (f : t.Fit) (hn : t.ins.length < 253) (hl : (wideS t).length ≤ 16384) : getE (wideS t) = 5 := by
  refine get_bad hl (t := plain t) (r := []) (txP_wide h f hn) ?_
  rw [put_plain, bare_short hn]
  intro k
  have := congrArg List.length k
  unfold wideS at this
  simp only [List.length_append, List.length_cons] at this
  omega
/-! ### the parts of the bare bytes -/
theorem bare_len (t : TxD) : (bareS t).length = 8 + (bodyS t).length := by
  unfold bareS
  rw [List.length_append, List.length_append, low_len, low_len]
  omega
theorem bare_take (t : TxD) : (bareS t).take 4 = low 4 t.ver := by
  unfold bareS
  exact List.take_left' (low_len 4 _)
theorem bare_mid (t : TxD) : ((bareS t).drop 4).take ((bareS t).length - 4 - 4) = bodyS t := by
  rw [bare_len]
  unfold bareS
  rw [List.drop_left' (low_len 4 _), show 8 + (bodyS t).length - 4 - 4 = (bodyS t).length by omega]
  exact List.take_left' rfl
theorem bare_back (t : TxD) : (bareS t).drop ((bareS t).length - 4) = low 4 t.lock := by
  rw [bare_len]
  unfold bareS
  rw [show 8 + (bodyS t).length - 4 = (low 4 t.ver ++ bodyS t).length by rw [List.length_append, low_len]; omega, ← List.append_assoc]
  exact List.drop_left' rfl
theorem hollow_len (t : TxD) : (hollowS t).length = (bareS t).length + 2 + t.ins.length := by
  unfold hollowS
  rw [bare_len]
  simp only [List.length_append, List.length_cons, List.length_replicate, low_len]
  omega
theorem wide_len {t : TxD} (hn : t.ins.length < 253) : (wideS t).length = (bareS t).length + 2 := by
  unfold wideS
  rw [bare_short hn]
  simp only [List.length_append, List.length_cons]
  omega
theorem bare_five {t : TxD} (hn : t.ins.length < 253) : (bareS t).drop 5 = insS t.ins ++ (countS t.outs.length ++ (outsS t.outs ++ low 4 t.lock)) ∧ nth (bareS t) 4 = t.ins.length := by
  rw [bare_short hn]
  constructor
  · rw [show (5 : Nat) = 4 + 1 from rfl, ← List.drop_drop, List.drop_left' (low_len 4 _)]
    rfl
  · have := nth_right (low 4 t.ver) (t.ins.length :: (insS t.ins ++ (countS t.outs.length ++ (outsS t.outs ++ low 4 t.lock)))) 0
    rw [low_len] at this
    exact this
end Go.Proofs.YtbdjcbdnhaddoaaDoor
