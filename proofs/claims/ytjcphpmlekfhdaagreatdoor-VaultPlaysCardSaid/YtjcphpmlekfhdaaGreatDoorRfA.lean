/- The reference's disk: a change put behind; Read, New. No condition but bounds. -/
import Derived.Test.YtjcphpmlekfhdaaGreatDoorRfN
import Derived.Lib.ConvBytes
namespace Go.Proofs.YtjcphpmlekfhdaaGreatDoor
open Go.RowKit

theorem rfbelow (w : World) (s : ByteArray) : Below w.heap.size w (Lib.bytesWorld w 5 s) :=
  ⟨rfl, rfl, rfl, by rw [Lib.bytesWorld_size]; omega, fun i hi => Lib.bytesWorld_at_old w _ s i hi⟩
/-- The bytes of a string. -/
theorem rfbytes {L : List Nat} (h : AllB L) (w : World) : ∃ c w', (convert 9 40 (.string (strB L))).run Tryz.prog w = .ok (.slice (some ⟨w.heap.size, 0, none⟩) L.length c) w' ∧ Bs w' (some ⟨w.heap.size, 0, none⟩) L.length L ∧ Below w.heap.size w w' := by
  have r := Lib.run_convert_string_bytes (P := Tryz.prog) w 9 40 5 (strB L) Tryz.underlying9 Tryz.underlying40 Tryz.underlying5
  rw [strB_size] at r
  refine ⟨_, _, r, ⟨rfl, h, fun _ => ⟨_, rfl, by rw [Lib.bytesWorld_size]; exact Nat.lt_succ_self _, fun k hk => ?_⟩⟩, rfbelow w _⟩
  rw [rfadd_at, Nat.zero_add, Lib.bytesWorld_cell w _ _ k (by rw [strB_size]; exact hk)]
  have e : (strB L).data.toList.getD k 0 = UInt8.ofNat (nth L k) := by
    simp [strB, nth, List.getD, hk]
  rw [e, UInt8.toNat_ofNat', Nat.mod_eq_of_lt (nth_lt h k)]

theorem elemRc : ElemT 65 138 3 32 (.agg #[.bool false, .string ⟨#[]⟩, .int .i64 0]) := ⟨Tryz.underlying65, by kernel_rfl, rfl, by decide⟩
def appR (args : Array Value) : Sem Value := Builtin.append_ #[65, 65] 65 args
theorem appR_mark (args : Array Value) : Builtin.append_ #[65, 65] 65 args = appR args := rfl

section
variable {w0 w : World} {r : Nat} {F : Nat → Prop} {S : Dk}
theorem rcV_one (x : Chg) : ∀ u ∈ rcV x, u.oneCell' = true := by
  intro u hu
  cases x <;> simp [rcV] at hu <;> rcases hu with rfl | rfl | rfl <;> rfl
/-- A change put behind what is loose of file i: the append, run ahead, and what the store leaves. -/
theorem radd (h : Rsk w0 r F S w) {i : Nat} (hi : i = 0 ∨ i = 1) (hc : S.cnt ≤ 1073741822) {x : Chg} (hx : RcR w noP (rcV x) x) (ok : (S.put i ((S.at i).add x)).Ok) :
    ∃ A c, w.cell? ⟨r, 2 * i + 1, none⟩ = some (.slice A (S.at i).loose.length c) ∧ ∃ A' c' w', (appR #[.slice A (S.at i).loose.length c, .slice (some ⟨w.heap.size, 0, none⟩) 1 1]).run Tryz.prog (w.drew.alloc (.cells (rcV x).toArray 138)) = .ok (.slice A' ((S.at i).loose.length + 1) c') w' ∧
      w'.cell? ⟨r, 2 * i + 1, none⟩ = some (.slice A (S.at i).loose.length c) ∧ w'.frozen? ⟨r, 2 * i + 1, none⟩ = false ∧ RDid w0 r F w (S.put i ((S.at i).add x)) (w'.setCell ⟨r, 2 * i + 1, none⟩ (.slice A' ((S.at i).loose.length + 1) c')) := by
  obtain ⟨v0, v1, D, hF, hL⟩ := h
  have b1 : Below w.heap.size w (w.drew.alloc (.cells (rcV x).toArray 138)) := ((Below.refl _ w).drew).alloc (Nat.le_refl _) _
  have RN := Ro.new w.drew 138 (rcV x)
  have hcn := S.cnt_at i
  have key : ∀ v, OwnRw 138 3 RcR w0 noP v (S.at i).loose.length (S.at i).loose w → ∃ A c, v = .slice A (S.at i).loose.length c ∧ ∃ A' c' w', (appR #[.slice A (S.at i).loose.length c, .slice (some ⟨w.heap.size, 0, none⟩) 1 1]).run Tryz.prog (w.drew.alloc (.cells (rcV x).toArray 138)) = .ok (.slice A' ((S.at i).loose.length + 1) c') w' ∧
      OwnRw 138 3 RcR w0 noP (.slice A' ((S.at i).loose.length + 1) c') ((S.at i).loose.length + 1) ((S.at i).loose ++ [x]) w' ∧ w.grownBy w' v.ownBlock ∧ (Value.ownBlock (.slice A' ((S.at i).loose.length + 1) c') = v.ownBlock ∨ ∀ b, Value.ownBlock (.slice A' ((S.at i).loose.length + 1) c') = some b → w.heap.size ≤ b) := by
    intro v hv
    obtain ⟨A, c, rfl, hcc⟩ := hv.shape
    obtain ⟨A', c', w', r1, r2, r3, r4, r5⟩ := run_appRw (m := 1) (c := 1) (k := [x]) (cs := rcV x) (A := some ⟨w.heap.size, 0, none⟩) elemRc rcM 65 (hv.later rcM b1) rfl (fun _ => ⟨_, _, rfl, fun j q hj => by
      have := RN.cell (k := j) hj
      rwa [Nat.zero_add]⟩) (Each.one (rcV_len x) hx) (rcV_one x) (by omega) (by omega)
    refine ⟨A, c, rfl, A', c', w', r1, r2, ⟨r3.os.trans b1.os, r3.tape.trans b1.tape, r3.output.trans b1.output, Nat.le_trans b1.size r3.size, fun k hk hne => by rw [r3.block k (by have := b1.size; omega) hne, b1.block k hk]⟩, ?_⟩
    rcases r5 with q | q
    · exact .inl q
    · refine .inr fun b e => ?_
      rw [q] at e
      injection e with e
      have := b1.size
      omega
  have hlr := D.ro.lt
  rcases hi with rfl | rfl
  · obtain ⟨A, c, rfl, A', c', w', r1, O, G, ne⟩ := key v0 D.l0
    have nr : some r ≠ (Value.slice A (S.at 0).loose.length c).ownBlock := fun e => D.n0 e.symm
    have R2 := D.ro.far G nr
    have nr' : Value.ownBlock (.slice A' ((S.at 0).loose.length + 1) c') ≠ some r := by
      rcases ne with q | q
      · rw [q]; exact D.n0
      · intro e; have := q r e; omega
    refine ⟨A, c, D.ro.cell rfl, A', c', w', r1, R2.cell rfl, R2.free _, ?_⟩
    have hb' : Below w0.heap.size w0 w' := O.bel
    have hb := hb'.setCell (p := ⟨r, 2 * 0 + 1, none⟩) D.lo (.slice A' ((S.at 0).loose.length + 1) c')
    have k := kept_set w' r (2 * 0 + 1) (.slice A' ((S.at 0).loose.length + 1) c') (P := fun b => b ≠ r) fun h => h rfl
    have sz : (w'.setCell ⟨r, 2 * 0 + 1, none⟩ (.slice A' ((S.at 0).loose.length + 1) c')).heap.size = w'.heap.size := by simp
    have gs := G.size
    refine ⟨⟨_, v1, ⟨?_, ?_, ?_, nr', D.n1, D.lo, R2.set _ _, ok⟩, fun b hb => ?_, fun b hb => ?_⟩, ?_⟩
    · have e : ((S.put 0 ((S.at 0).add x)).f.loose).length = (S.at 0).loose.length + 1 := by show (S.f.loose ++ [x]).length = _; rw [List.length_append]; rfl
      rw [e]
      exact O.kept rcM k.size (fun b h hl => k.blk b (fun e => by rcases h with h | h; exact h.elim; exact nr' (e ▸ h)) hl) hb
    · refine (D.l1.kept rcM (w' := w') G.size (fun b h hl => G.block b hl fun e => ?_) hb').kept rcM k.size (fun b h hl => k.blk b (fun e => by rcases h with h | h; exact h.elim; exact D.n1 (e ▸ h)) hl) hb
      rcases h with h | h
      · exact h
      · exact D.ne b e.symm h
    · intro b e h1
      rcases ne with q | q
      · rw [q] at e; exact D.ne b e h1
      · have := q b e
        have := (D.l1.new b h1).2
        omega
    · rcases hb with hb | hb | hb
      · rcases ne with q | q
        · rw [q] at hb; exact .inl (hF b (.inl hb))
        · exact .inr ⟨q b hb, by rw [sz]; exact (O.new b hb).2⟩
      · exact .inl (hF b (.inr (.inl hb)))
      · exact .inl (hF b (.inr (.inr hb)))
    · rcases hb with hb | hb
      · have := hL b hb
        exact ⟨this.1, by rw [sz]; omega⟩
      · have h1 := hb.1
        exact ⟨by have := D.bel.size; omega, hb.2⟩
    · exact ⟨by rw [sz]; exact gs, fun b hb hl => by
        rw [k.blk b (fun e => hb (hF b (.inr (.inr e)))) (by omega), G.block b hl fun e => hb (hF b (.inl e.symm))]⟩
  · obtain ⟨A, c, rfl, A', c', w', r1, O, G, ne⟩ := key v1 D.l1
    have nr : some r ≠ (Value.slice A (S.at 1).loose.length c).ownBlock := fun e => D.n1 e.symm
    have R2 := D.ro.far G nr
    have nr' : Value.ownBlock (.slice A' ((S.at 1).loose.length + 1) c') ≠ some r := by
      rcases ne with q | q
      · rw [q]; exact D.n1
      · intro e; have := q r e; omega
    refine ⟨A, c, D.ro.cell rfl, A', c', w', r1, R2.cell rfl, R2.free _, ?_⟩
    have hb' : Below w0.heap.size w0 w' := O.bel
    have hb := hb'.setCell (p := ⟨r, 2 * 1 + 1, none⟩) D.lo (.slice A' ((S.at 1).loose.length + 1) c')
    have k := kept_set w' r (2 * 1 + 1) (.slice A' ((S.at 1).loose.length + 1) c') (P := fun b => b ≠ r) fun h => h rfl
    have sz : (w'.setCell ⟨r, 2 * 1 + 1, none⟩ (.slice A' ((S.at 1).loose.length + 1) c')).heap.size = w'.heap.size := by simp
    have gs := G.size
    refine ⟨⟨v0, _, ⟨?_, ?_, ?_, D.n0, nr', D.lo, R2.set _ _, ok⟩, fun b hb => ?_, fun b hb => ?_⟩, ?_⟩
    · refine (D.l0.kept rcM (w' := w') G.size (fun b h hl => G.block b hl fun e => ?_) hb').kept rcM k.size (fun b h hl => k.blk b (fun e => by rcases h with h | h; exact h.elim; exact D.n0 (e ▸ h)) hl) hb
      rcases h with h | h
      · exact h
      · exact D.ne b h e.symm
    · have e : ((S.put 1 ((S.at 1).add x)).g.loose).length = (S.at 1).loose.length + 1 := by show (S.g.loose ++ [x]).length = _; rw [List.length_append]; rfl
      rw [e]
      exact O.kept rcM k.size (fun b h hl => k.blk b (fun e => by rcases h with h | h; exact h.elim; exact nr' (e ▸ h)) hl) hb
    · intro b h0 e
      rcases ne with q | q
      · rw [q] at e; exact D.ne b h0 e
      · have := q b e
        have := (D.l0.new b h0).2
        omega
    · rcases hb with hb | hb | hb
      · exact .inl (hF b (.inl hb))
      · rcases ne with q | q
        · rw [q] at hb; exact .inl (hF b (.inr (.inl hb)))
        · exact .inr ⟨q b hb, by rw [sz]; exact (O.new b hb).2⟩
      · exact .inl (hF b (.inr (.inr hb)))
    · rcases hb with hb | hb
      · have := hL b hb
        exact ⟨this.1, by rw [sz]; omega⟩
      · have h1 := hb.1
        exact ⟨by have := D.bel.size; omega, hb.2⟩
    · exact ⟨by rw [sz]; exact gs, fun b hb hl => by
        rw [k.blk b (fun e => hb (hF b (.inr (.inr e)))) (by omega), G.block b hl fun e => hb (hF b (.inr (.inl e.symm)))]⟩
end
end Go.Proofs.YtjcphpmlekfhdaaGreatDoor
