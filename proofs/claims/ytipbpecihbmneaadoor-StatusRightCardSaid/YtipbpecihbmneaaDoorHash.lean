/- Hashes as arrays of bytes: loaded whole, stored whole, handed back whole; Back of the document's answers of layer 4. No condition. -/
import Derived.Test.YtipbpecihbmneaaDoorRev
import Derived.Laws.Tables
namespace Go.Proofs.YtipbpecihbmneaaDoor
open Go.RowKit

theorem Tryd.infoHash : (Tryd.prog.info? 27).map (·.size) = some 32 := by kernel_rfl
/-- A hash as a value. -/
def hashV (H : List Nat) : Value := .agg (vals H).toArray
/-- A list of 32 bytes. -/
structure H32 (H : List Nat) : Prop where
  len : H.length = 32
  byt : AllB H
theorem H32.rev {H : List Nat} (h : H32 H) : H32 H.reverse := ⟨by rw [List.length_reverse, h.len], h.byt.rev⟩
theorem vals_all (L : List Nat) : (vals L).toArray.all (·.oneCell') = true := by
  rw [Array.all_eq_true_iff_forall_mem]
  intro x hx
  exact vals_one L x (by simpa using hx)
theorem info_row {L : List Nat} (h : L.length = 32) : (Tryd.prog.info? 27).map (·.size) = some (vals L).toArray.size := by
  rw [List.size_toArray, vals_length, h]; exact Tryd.infoHash
theorem grownBy_setRow (w : World) (g : Nat) (cs : Array Value) : w.grownBy (w.setRow g cs) (some g) :=
  ⟨rfl, rfl, rfl, by simp, fun k _ hne => by
    simp only [World.setRow, Array.getElem?_modify]
    rw [if_neg (by intro e; exact hne (by rw [e]))]⟩
theorem Row.far {w w1 : World} {b : Nat} {T : TypeId} {L : List Nat} {row : Option Nat} (h : Row w b T L) (g : w.grownBy w1 row) (hr : some b ≠ row) : Row w1 b T L := by
  have hlt := h.lt
  unfold Row at *
  rw [g.block b hlt hr]; exact h
/-- A block of noughts, as a walk lays it. -/
theorem Row.zeros (w : World) : Row (w.alloc (.cells #[.int .u8 0, .int .u8 0, .int .u8 0, .int .u8 0, .int .u8 0, .int .u8 0, .int .u8 0, .int .u8 0, .int .u8 0, .int .u8 0, .int .u8 0, .int .u8 0, .int .u8 0, .int .u8 0, .int .u8 0, .int .u8 0, .int .u8 0, .int .u8 0, .int .u8 0, .int .u8 0, .int .u8 0, .int .u8 0, .int .u8 0, .int .u8 0, .int .u8 0, .int .u8 0, .int .u8 0, .int .u8 0, .int .u8 0, .int .u8 0, .int .u8 0, .int .u8 0] 27)) w.heap.size 27 (List.replicate 32 0) := Row.new w _ (List.replicate 32 0)

section
variable {w : World} {ops : Array Oper} {rest : List Oper} {o : Oper} {a : Act} {Q : Exit → Act → World → Prop} {K : Act → World → Prop}
theorem wp_load_hash (x : Operand) (ho : o.op = .load 27 x) {b : Nat} {H : List Nat} (hx : a.eval x = .pointer (some ⟨b, 0, none⟩)) (hr : Row w b 27 H) (hl : H.length = 32)
    (h : K (a.put o.dst (hashV H)) w) : o.wp Tryd.prog a w K Q :=
  wp_load_row 27 x ho b hx 27 (vals H).toArray (0, 0) _ hr Tryd.underlying27 rfl (info_row hl) h
theorem wpList_load_hash (hgd : o.guard = none) (x : Operand) (ho : o.op = .load 27 x) {b : Nat} {H : List Nat} (hx : a.eval x = .pointer (some ⟨b, 0, none⟩)) (hr : Row w b 27 H) (hl : H.length = 32)
    (h : wpList Tryd.prog ops Q rest (a.put o.dst (hashV H)) w) : wpList Tryd.prog ops Q (o :: rest) a w :=
  wpList_plain hgd fun _ hK => wp_load_hash x ho hx hr hl (hK _ _ h)
theorem wpList_store_hash (hgd : o.guard = none) (x y : Operand) (ho : o.op = .store 27 x y) {b : Nat} {H Z : List Nat} (hx : a.eval x = .pointer (some ⟨b, 0, none⟩)) (hy : a.eval y = hashV H) (hr : Row w b 27 Z) (hz : Z.length = 32) (hl : H.length = 32)
    (h : ∀ w', Row w' b 27 H → w.grownBy w' (some b) → wpList Tryd.prog ops Q rest (a.put o.dst undef) w') : wpList Tryd.prog ops Q (o :: rest) a w :=
  wpList_store_row hgd 27 x y ho b (vals H).toArray hx hy 27 (vals Z).toArray hr (info_row hl) (by simp [vals_length, hz, hl]) (vals_all H) (h _ (setRow_heap w b _ _ _ _ hr) (grownBy_setRow w b _))
end
theorem results_hash {fn : Func} {p : Tmp} (h : fn.results = #[.cell p 27]) (tmps : Array Value) {w : World} {b : Nat} {H : List Nat} (hp : tmps.getD p undef = .pointer (some ⟨b, 0, none⟩)) (hr : Row w b 27 H) (hl : H.length = 32) :
    (results fn tmps).run Tryd.prog w = .ok (hashV H) w :=
  results_cell_row h tmps w b 27 (vals H).toArray (0, 0) _ hp hr Tryd.underlying27 rfl (info_row hl)

/-- The bytes so far, the rest noughts. -/
def upTo (H : List Nat) (k : Nat) : List Nat := H.take k ++ List.replicate (32 - k) 0
theorem upTo_length {H : List Nat} (h : H.length = 32) {k : Nat} (hk : k ≤ 32) : (upTo H k).length = 32 := by simp [upTo, h]; omega
theorem upTo_all {H : List Nat} (h : H.length = 32) : upTo H 32 = H := by
  unfold upTo
  rw [List.take_of_length_le (by omega)]
  simp
theorem upTo_set {H : List Nat} (h : H.length = 32) {k : Nat} (hk : k < 32) : (upTo H k).set k (nth H k) = upTo H (k + 1) := by
  refine nth_ext (by rw [List.length_set, upTo_length h (by omega), upTo_length h (by omega)]) fun j hj => ?_
  rw [List.length_set, upTo_length h (by omega)] at hj
  have at_ : ∀ m j, m ≤ 32 → j < 32 → nth (upTo H m) j = if j < m then nth H j else 0 := fun m j hm hj => by
    have l1 : (H.take m).length = m := by simp [h]; omega
    unfold upTo
    by_cases e : j < m
    · rw [if_pos e, nth_left (by omega)]
      simp [nth, List.getD, e]
    · rw [if_neg e, show j = (H.take m).length + (j - m) by omega, nth_right]
      simp [nth, List.getD, show j - m < 32 - m by omega]
  rw [at_ (k + 1) j (by omega) hj]
  by_cases e : k = j
  · subst e
    rw [nth_set_same (by rw [upTo_length h (by omega)]; exact hk), if_pos (by omega)]
  · rw [nth_set_ne e, at_ k j (by omega) hj]
    by_cases e2 : j < k
    · rw [if_pos e2, if_pos (by omega)]
    · rw [if_neg e2, if_neg (by omega)]

theorem three_new (w : World) (L : List Nat) : Row ((((w.alloc (.cells (vals L).toArray 27)).alloc (.cells (vals (List.replicate 32 0)).toArray 27)).alloc (.cells (vals (List.replicate 32 0)).toArray 27))) w.heap.size 27 L ∧
    Row ((((w.alloc (.cells (vals L).toArray 27)).alloc (.cells (vals (List.replicate 32 0)).toArray 27)).alloc (.cells (vals (List.replicate 32 0)).toArray 27))) (w.heap.size + 1) 27 (List.replicate 32 0) ∧
    Row ((((w.alloc (.cells (vals L).toArray 27)).alloc (.cells (vals (List.replicate 32 0)).toArray 27)).alloc (.cells (vals (List.replicate 32 0)).toArray 27))) (w.heap.size + 2) 27 (List.replicate 32 0) ∧
    Below w.heap.size w ((((w.alloc (.cells (vals L).toArray 27)).alloc (.cells (vals (List.replicate 32 0)).toArray 27)).alloc (.cells (vals (List.replicate 32 0)).toArray 27))) := by
  have al : ∀ (w : World) (o : Obj), Below w.heap.size w (w.alloc o) := fun w o => (Below.refl _ _).alloc (Nat.le_refl _) o
  refine ⟨((Row.new w _ L).later (al _ _)).later (al _ _), ?_, ?_, (((Below.refl _ _).alloc (Nat.le_refl _) _).alloc (by simp) _).alloc (by simp; omega) _⟩
  · have := (Row.new (w.alloc (.cells (vals L).toArray 27)) 27 (List.replicate 32 0)).later (al _ (.cells (vals (List.replicate 32 0)).toArray 27))
    rwa [World.size_alloc] at this
  · have := Row.new ((w.alloc (.cells (vals L).toArray 27)).alloc (.cells (vals (List.replicate 32 0)).toArray 27)) 27 (List.replicate 32 0)
    rwa [World.size_alloc, World.size_alloc] at this

/-- Back under way. -/
structure BackAt (w : World) (H : List Nat) (k : Nat) (wr : World) : Prop where
  src : Row wr w.heap.size 27 H
  res : Row wr (w.heap.size + 1) 27 (List.replicate 32 0)
  out : Row wr (w.heap.size + 2) 27 (upTo H.reverse k)
  bel : Below w.heap.size w wr

set_option maxRecDepth 100000 in
set_option maxHeartbeats 4000000 in
theorem back_any {H : List Nat} (hH : H32 H) (w : World) : Calls Tryd.prog 24 #[hashV H] w fun e w' => e = .returned (hashV H.reverse) ∧ Below w.heap.size w w' := by
  have HH := Lib.hid hH
  have HR := Lib.hid hH.rev
  clear hH
  go_enter Tryd.func24, Tryd.ntmps24
  unfold hashV
  go_wp2_with fail
  go_loopw [4] (fun i wr => ∃ k : Nat, k ≤ 32 ∧ i = .int .i64 (k : Nat) ∧ BackAt w H k wr) (fun i _ => 32 - (intOf i).toNat)
  case atStart =>
    obtain ⟨h1, h2, h3, h4⟩ := three_new w H
    exact ⟨0, by omega, rfl, h1, h2, h3, h4⟩
  case round =>
    obtain ⟨k, hk, rfl, B⟩ := hrel
    by_cases hlt : k < 32
    · have t1 : decide ((k : Int) < 32) = true := decide_eq_true (by omega)
      have c1 := B.src.cell (k := 31 - k) (by rw [HH.out.len]; omega)
      have f2 := B.out.free k
      have c2 := B.out.cell (k := k) (by rw [upTo_length HR.out.len hk]; omega)
      have e1 : (31 : Int) - (k : Int) = ((31 - k : Nat) : Int) := by omega
      have hx : nth H.reverse k = nth H (31 - k) := by rw [nth_reverse (by rw [HH.out.len]; exact hlt), HH.out.len]
      have hset := upTo_set HR.out.len hlt
      rw [hx] at hset
      obtain ⟨j, hj⟩ : ∃ j, 31 - k = j := ⟨_, rfl⟩
      obtain ⟨x, hxx⟩ : ∃ x, nth H (31 - k) = x := ⟨_, rfl⟩
      rw [hxx] at c1 hset
      rw [hj] at c1 e1
      have j32 : j < 32 := by omega
      have HB : Hid (BackAt w H (k + 1) (wr.setCell ⟨w.heap.size + 2, k, none⟩ (.int .u8 (x : Int)))) := Lib.hid ⟨B.src.other (by omega) _, B.res.other (by omega) _, by have := B.out.set k x; rwa [hset] at this, B.bel.setCell (by simp) _⟩
      clear B hx hset hj hxx
      go_wp2_with fail
      go_roundw
      case rel => exact ⟨k + 1, by omega, by go_num, HB.out⟩
      case measure => simp [intOf]; omega
    · obtain rfl : k = 32 := by omega
      have o1 := B.out
      rw [upTo_all HR.out.len] at o1
      have O1 := Lib.hid o1
      have HB := Lib.hid B
      clear o1 B
      go_wp2_with (first | (refine wpList_load_hash rfl (.tmp 3) rfl rfl O1.out HR.out.len ?_) | (refine wpList_store_hash rfl (.tmp 2) (.tmp 15) rfl rfl rfl HB.out.res (by simp) HR.out.len ?_; intro w' h1 h2; have H1 := Lib.hid h1; have H2 := Lib.hid h2; clear h1 h2))
      exact bodyPost_ret (results_hash Tryd.results24 _ rfl H1.out HR.out.len) rfl ⟨rfl, HB.out.bel.grown H2.out HB.out.bel.size (fun q e => by cases e; omega)⟩
end Go.Proofs.YtipbpecihbmneaaDoor
