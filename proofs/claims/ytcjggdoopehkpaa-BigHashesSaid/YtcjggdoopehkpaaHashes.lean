/- BigHashes returns true for every hash and every number, and each argument reads afterwards as it read before. No condition. -/
import Derived.Test.YtcjggdoopehkpaaRows
import Derived.Test.YtcjggdoopehkpaaRefHash
import Derived.Deep.WholeRow
import Derived.Test.YtcjggdoopehkpaaWorks
import Derived.Test.YtcjggdoopehkpaaAnchor
import Derived.Test.YtcjggdoopehkpaaAfter
import Derived.Test.YtcjggdoopehkpaaCon
import Derived.Test.YtcjggdoopehkpaaOpen
namespace Go.Proofs.Ytcjggdoopehkpaa
open Go.ChangeShapes Go.WideShapes Go.ChangeAt Go.RowKit

/-- A whole array that is read in a region that leaves its order open. -/
theorem quiet_load_row {P : Program} {o : Oper} {a : Act} {C : World → Prop} {K : Act → Prop} (ty : TypeId) (x : Operand) (ho : o.op = .load ty x) (g : Nat) (hx : a.eval x = .pointer (some ⟨g, 0, none⟩)) (t : TypeId) (cs : Array Value) (d : TypeDesc)
    (hC : ∀ w, C w → Holds w g cs t) (hu : P.underlying ty = some d) (hd : (match d with | .struct _ | .array _ _ => true | _ => false) = true) (hi : (P.info? ty).map (·.size) = some cs.size) (hk : K (a.put o.dst (.agg cs))) : o.quiet P a C K :=
  ⟨.agg cs, fun w hw => by
    unfold Oper.quietAt execOp
    simp only [ho, hx, Instr.loadAt, Instr.sureAddr, Sem.run_bind, Sem.run_pure, Result.andThen_ok, run_loadVar_row w g t ty cs (0, 0) d (hC w hw) hu hd hi]
    exact ⟨rfl, rfl⟩, hk⟩


theorem Try.infoByte : (Try.prog.info? 5).isSome = true := by kernel_rfl
theorem Try.cellByte : Try.prog.cellsOf 5 = 1 := by kernel_rfl
/-- A hash is the same as itself. -/
theorem eq_hash (f : Nat → Nat) (w : World) : (Op.equalIn 10000 40 (.agg (rowOf f)) (.agg (rowOf f))).run Try.prog w = .ok true w := by
  obtain ⟨i, hi⟩ : ∃ i, Try.prog.info? 5 = some i := Option.isSome_iff_exists.1 Try.infoByte
  rw [run_equalIn_array w 9999 (e := 5) (n := 32) _ _ Try.underlying40 hi]
  rw [Try.cellByte]
  have pt : ∀ k, k < 32 → (part 5 (rowOf f) k).run Try.prog w = .ok (.int .u8 (f k : Nat)) w := fun k hk => by
    have := rowOf_get f k hk
    simp [part, isAgg, run_underlying Try.underlying5, this]
  have all : ∀ l : List Nat, (∀ k ∈ l, k < 32) → (Op.eqItems 9999 5 1 (rowOf f) (rowOf f) l).run Try.prog w = Result.ok true w := by
    intro l
    induction l with
    | nil => intro _; rfl
    | cons k l ih =>
      intro hl
      simp [Op.eqItems, Sem.run_bind, pt k (hl k (by simp)), run_equalIn_int w _ _ _ _ _ _ Try.underlying5, ih (fun x hx => hl x (by simp [hx]))]
  exact all _ (fun k hk => by simpa using hk)

set_option maxRecDepth 100000 in
set_option maxHeartbeats 8000000 in
theorem hashes_walk (h y : Array Value) (a0 a1 a2 a3 x0 x1 x2 x3 : Nat) (hs : h.size = 32) (ys : y.size = 32) (yc : y.all (·.oneCell') = true) (w : World)
    (oh : ∀ w : World, Calls Try.prog 28 #[.agg h] w fun e w' => e = .returned (.agg #[.int .u64 (x0 : Nat), .int .u64 (x1 : Nat), .int .u64 (x2 : Nat), .int .u64 (x3 : Nat)]) ∧ Below w.heap.size w w') (th : ∀ w : World, Calls Try.prog 29 #[.agg #[.int .u64 (a0 : Nat), .int .u64 (a1 : Nat), .int .u64 (a2 : Nat), .int .u64 (a3 : Nat)]] w fun e w' => e = .returned (.agg y) ∧ Below w.heap.size w w') (roh : ∀ w : World, Calls Try.prog 30 #[.agg h] w fun e w' => e = .returned (.agg #[.int .u64 (x0 : Nat), .int .u64 (x1 : Nat), .int .u64 (x2 : Nat), .int .u64 (x3 : Nat)]) ∧ Below w.heap.size w w') (rth : ∀ w : World, Calls Try.prog 31 #[.agg #[.int .u64 (a0 : Nat), .int .u64 (a1 : Nat), .int .u64 (a2 : Nat), .int .u64 (a3 : Nat)]] w fun e w' => e = .returned (.agg y) ∧ Below w.heap.size w w') (txh : ∀ w : World, Calls Try.prog 29 #[.agg #[.int .u64 (x0 : Nat), .int .u64 (x1 : Nat), .int .u64 (x2 : Nat), .int .u64 (x3 : Nat)]] w fun e w' => e = .returned (.agg h) ∧ Below w.heap.size w w') (oyh : ∀ w : World, Calls Try.prog 28 #[.agg y] w fun e w' => e = .returned (.agg #[.int .u64 (a0 : Nat), .int .u64 (a1 : Nat), .int .u64 (a2 : Nat), .int .u64 (a3 : Nat)]) ∧ Below w.heap.size w w')
    (eqh : ∀ w : World, (Op.equalIn 10000 40 (.agg h) (.agg h)).run Try.prog w = .ok true w) (eqy : ∀ w : World, (Op.equalIn 10000 40 (.agg y) (.agg y)).run Try.prog w = .ok true w) (eqx : EqIs x0 x1 x2 x3 x0 x1 x2 x3 true) (eqa : EqIs a0 a1 a2 a3 a0 a1 a2 a3 true) :
    Calls Try.prog 5 #[.agg h, .agg #[.int .u64 (a0 : Nat), .int .u64 (a1 : Nat), .int .u64 (a2 : Nat), .int .u64 (a3 : Nat)]] w fun e w' => e = .returned (.bool true) ∧ Below w.heap.size w w' := by
  have OHH := Lib.hid oh
  have THH := Lib.hid th
  have ROH := Lib.hid roh
  have RTH := Lib.hid rth
  have TXH := Lib.hid txh
  have OYH := Lib.hid oyh
  have WKH := Lib.hid works_any
  have hi : (Try.prog.info? 40).map (·.size) = some h.size := by rw [hs]; exact Try.infoHash
  have yi : (Try.prog.info? 40).map (·.size) = some y.size := by rw [ys]; exact Try.infoHash
  clear oh th roh rth txh oyh
  unfold EqIs at eqx eqa
  go_enter Try.func5, Try.ntmps5
  have HH : Hid (Holds ((w.alloc (.cells h 40)).alloc (.cells #[.int .u64 (a0 : Nat), .int .u64 (a1 : Nat), .int .u64 (a2 : Nat), .int .u64 (a3 : Nat)] 24)) w.heap.size h 40) := (Holds.new _ _ _).later ((Below.refl _ _).alloc (Nat.le_refl _) _)
  have HA0 : Holds ((w.alloc (.cells h 40)).alloc (.cells #[.int .u64 (a0 : Nat), .int .u64 (a1 : Nat), .int .u64 (a2 : Nat), .int .u64 (a3 : Nat)] 24)) (w.heap.size + 1) #[.int .u64 (a0 : Nat), .int .u64 (a1 : Nat), .int .u64 (a2 : Nat), .int .u64 (a3 : Nat)] 24 := by
    have := Holds.new (w.alloc (.cells h 40)) #[.int .u64 (a0 : Nat), .int .u64 (a1 : Nat), .int .u64 (a2 : Nat), .int .u64 (a3 : Nat)] 24
    simpa using this
  have HA := Lib.hid HA0
  clear HA0
  go_wp2_with (refine wpList_load_row rfl 40 (.tmp 2) rfl w.heap.size rfl 40 h (0, 0) _ HH.out Try.underlying40 rfl hi ?_)
  refine (OHH.out _).mono ?_
  rintro e w1 ⟨rfl, h1⟩
  have PB : Hid (Below w.heap.size w w1) := (((Below.refl _ _).alloc (Nat.le_refl _) _).alloc (by simp) _).trans (h1.mono (by simp; omega))
  replace HH := Lib.hid (HH.out.later h1)
  replace HA := Lib.hid (HA.out.later h1)
  clear h1
  have ca0 : w1.cell? ⟨w.heap.size + 1, 0, none⟩ = some (.int .u64 (a0 : Nat)) := HA.out.cell 0
  have ca1 : w1.cell? ⟨w.heap.size + 1, 1, none⟩ = some (.int .u64 (a1 : Nat)) := HA.out.cell 1
  have ca2 : w1.cell? ⟨w.heap.size + 1, 2, none⟩ = some (.int .u64 (a2 : Nat)) := HA.out.cell 2
  have ca3 : w1.cell? ⟨w.heap.size + 1, 3, none⟩ = some (.int .u64 (a3 : Nat)) := HA.out.cell 3
  have la : w.heap.size + 1 < w1.heap.size := HA.out.lt
  go_wp2_with fail
  clear ca0 ca1 ca2 ca3 la
  refine (THH.out _).mono ?_
  rintro e w2 ⟨rfl, h2⟩
  have g1 : Below w1.heap.size w1 (w1.alloc (.cells #[.int .u64 (x0 : Nat), .int .u64 (x1 : Nat), .int .u64 (x2 : Nat), .int .u64 (x3 : Nat)] 24)) := (Below.refl _ _).alloc (Nat.le_refl _) _
  have HX : Hid (Holds w2 w1.heap.size #[.int .u64 (x0 : Nat), .int .u64 (x1 : Nat), .int .u64 (x2 : Nat), .int .u64 (x3 : Nat)] 24) := (Holds.new w1 #[.int .u64 (x0 : Nat), .int .u64 (x1 : Nat), .int .u64 (x2 : Nat), .int .u64 (x3 : Nat)] 24).later h2
  replace HH := Lib.hid ((HH.out.later g1).later h2)
  replace HA := Lib.hid ((HA.out.later g1).later h2)
  replace PB := Lib.hid ((PB.out.trans (g1.mono PB.out.size)).trans (h2.mono (by have := PB.out.size; simp; omega)))
  clear h2 g1
  have g2 : Hid (Below w2.heap.size w2 (w2.alloc (.cells y 40))) := (Below.refl _ _).alloc (Nat.le_refl _) _
  have SC : (storeCells ⟨w2.heap.size, 0, none⟩ y.toList 0).run Try.prog (w2.alloc (.cells #[.int .u8 0, .int .u8 0, .int .u8 0, .int .u8 0, .int .u8 0, .int .u8 0, .int .u8 0, .int .u8 0, .int .u8 0, .int .u8 0, .int .u8 0, .int .u8 0, .int .u8 0, .int .u8 0, .int .u8 0, .int .u8 0, .int .u8 0, .int .u8 0, .int .u8 0, .int .u8 0, .int .u8 0, .int .u8 0, .int .u8 0, .int .u8 0, .int .u8 0, .int .u8 0, .int .u8 0, .int .u8 0, .int .u8 0, .int .u8 0, .int .u8 0, .int .u8 0] 40)) = .ok () (w2.alloc (.cells y 40)) := run_storeCells_new w2 40 zeros y yi (by rw [ys]; rfl) yc
  go_wp2_with fail
  clear SC
  replace HH := Lib.hid (HH.out.later g2.out)
  replace HA := Lib.hid (HA.out.later g2.out)
  replace HX := Lib.hid (HX.out.later g2.out)
  replace PB := Lib.hid (PB.out.trans (g2.out.mono PB.out.size))
  have HY : Hid (Holds (w2.alloc (.cells y 40)) w2.heap.size y 40) := Holds.new _ _ _
  clear g2
  generalize w2.alloc (.cells y 40) = W3 at *
  generalize w2.heap.size = By at *
  generalize w1.heap.size = Bx at *
  have ua0 : ∀ u : After W3, u.w.cell? ⟨w.heap.size + 1, 0, none⟩ = some (.int .u64 (a0 : Nat)) := fun u => (HA.out.later u.below).cell 0
  have ux0 : ∀ u : After W3, u.w.cell? ⟨Bx, 0, none⟩ = some (.int .u64 (x0 : Nat)) := fun u => (HX.out.later u.below).cell 0
  have ua1 : ∀ u : After W3, u.w.cell? ⟨w.heap.size + 1, 1, none⟩ = some (.int .u64 (a1 : Nat)) := fun u => (HA.out.later u.below).cell 1
  have ux1 : ∀ u : After W3, u.w.cell? ⟨Bx, 1, none⟩ = some (.int .u64 (x1 : Nat)) := fun u => (HX.out.later u.below).cell 1
  have ua2 : ∀ u : After W3, u.w.cell? ⟨w.heap.size + 1, 2, none⟩ = some (.int .u64 (a2 : Nat)) := fun u => (HA.out.later u.below).cell 2
  have ux2 : ∀ u : After W3, u.w.cell? ⟨Bx, 2, none⟩ = some (.int .u64 (x2 : Nat)) := fun u => (HX.out.later u.below).cell 2
  have ua3 : ∀ u : After W3, u.w.cell? ⟨w.heap.size + 1, 3, none⟩ = some (.int .u64 (a3 : Nat)) := fun u => (HA.out.later u.below).cell 3
  have ux3 : ∀ u : After W3, u.w.cell? ⟨Bx, 3, none⟩ = some (.int .u64 (x3 : Nat)) := fun u => (HX.out.later u.below).cell 3
  refine wp_region_after (by kernel_rfl) (by kernel_rfl) ?_
  repeat (go_big_quiet_step ((first | (go_at_call 30; exact after_call (ROH.out _)) | (go_at_call 31; exact after_call (RTH.out _)) | (go_at_call 29; exact after_call (TXH.out _)) | (go_at_call 28; exact after_call (OYH.out _)) | (go_at_call 21; exact after_call (WKH.out _)))))
  go_big_quiet_want
  refine quiet_load_row 40 (.tmp 2) rfl w.heap.size rfl 40 h _ (fun w hw => by obtain ⟨u, rfl⟩ := hw; exact HH.out.later u.below) Try.underlying40 rfl hi ?_
  go_big_quiet_on
  simp only [Act.put, List.setIfInBounds_toArray, List.set_cons_succ, List.set_cons_zero]
  repeat (go_big_quiet_step ((first | (go_at_call 30; exact after_call (ROH.out _)) | (go_at_call 31; exact after_call (RTH.out _)) | (go_at_call 29; exact after_call (TXH.out _)) | (go_at_call 28; exact after_call (OYH.out _)) | (go_at_call 21; exact after_call (WKH.out _)))))
  go_big_quiet_want
  refine quiet_load_row 40 (.tmp 6) rfl By rfl 40 y _ (fun w hw => by obtain ⟨u, rfl⟩ := hw; exact HY.out.later u.below) Try.underlying40 rfl yi ?_
  go_big_quiet_on
  simp only [Act.put, List.setIfInBounds_toArray, List.set_cons_succ, List.set_cons_zero]
  repeat (go_big_quiet_step ((first | (go_at_call 30; exact after_call (ROH.out _)) | (go_at_call 31; exact after_call (RTH.out _)) | (go_at_call 29; exact after_call (TXH.out _)) | (go_at_call 28; exact after_call (OYH.out _)) | (go_at_call 21; exact after_call (WKH.out _)))))
  go_big_quiet_want
  refine quiet_load_row 40 (.tmp 2) rfl w.heap.size rfl 40 h _ (fun w hw => by obtain ⟨u, rfl⟩ := hw; exact HH.out.later u.below) Try.underlying40 rfl hi ?_
  go_big_quiet_on
  simp only [Act.put, List.setIfInBounds_toArray, List.set_cons_succ, List.set_cons_zero]
  repeat (go_big_quiet_step ((first | (go_at_call 30; exact after_call (ROH.out _)) | (go_at_call 31; exact after_call (RTH.out _)) | (go_at_call 29; exact after_call (TXH.out _)) | (go_at_call 28; exact after_call (OYH.out _)) | (go_at_call 21; exact after_call (WKH.out _)))))
  go_big_quiet_want
  refine quiet_load_row 40 (.tmp 6) rfl By rfl 40 y _ (fun w hw => by obtain ⟨u, rfl⟩ := hw; exact HY.out.later u.below) Try.underlying40 rfl yi ?_
  go_big_quiet_on
  simp only [Act.put, List.setIfInBounds_toArray, List.set_cons_succ, List.set_cons_zero]
  repeat (go_big_quiet_step ((first | (go_at_call 30; exact after_call (ROH.out _)) | (go_at_call 31; exact after_call (RTH.out _)) | (go_at_call 29; exact after_call (TXH.out _)) | (go_at_call 28; exact after_call (OYH.out _)) | (go_at_call 21; exact after_call (WKH.out _)))))
  refine wpQuiet_nil ?_
  rintro _ ⟨u, rfl⟩
  have PC := Lib.hid (below_step PB.out u.below)
  clear PB HH HA HX HY ua0 ua1 ua2 ua3 ux0 ux1 ux2 ux3
  generalize u.w = W4 at *
  go_wp2_with fail
  go_ret
  exact ⟨rfl, PC.out⟩

theorem hashes_any (hb : Nat → Nat) (a0 a1 a2 a3 : Nat) (hh : Bytes hb) (ha : Words a0 a1 a2 a3) (w : World) :
    Calls Try.prog 5 #[.agg #[.int .u8 (hb 0 : Nat), .int .u8 (hb 1 : Nat), .int .u8 (hb 2 : Nat), .int .u8 (hb 3 : Nat), .int .u8 (hb 4 : Nat), .int .u8 (hb 5 : Nat), .int .u8 (hb 6 : Nat), .int .u8 (hb 7 : Nat), .int .u8 (hb 8 : Nat), .int .u8 (hb 9 : Nat), .int .u8 (hb 10 : Nat), .int .u8 (hb 11 : Nat), .int .u8 (hb 12 : Nat), .int .u8 (hb 13 : Nat), .int .u8 (hb 14 : Nat), .int .u8 (hb 15 : Nat), .int .u8 (hb 16 : Nat), .int .u8 (hb 17 : Nat), .int .u8 (hb 18 : Nat), .int .u8 (hb 19 : Nat), .int .u8 (hb 20 : Nat), .int .u8 (hb 21 : Nat), .int .u8 (hb 22 : Nat), .int .u8 (hb 23 : Nat), .int .u8 (hb 24 : Nat), .int .u8 (hb 25 : Nat), .int .u8 (hb 26 : Nat), .int .u8 (hb 27 : Nat), .int .u8 (hb 28 : Nat), .int .u8 (hb 29 : Nat), .int .u8 (hb 30 : Nat), .int .u8 (hb 31 : Nat)], .agg #[.int .u64 (a0 : Nat), .int .u64 (a1 : Nat), .int .u64 (a2 : Nat), .int .u64 (a3 : Nat)]] w fun e w' => e = .returned (.bool true) ∧ Below w.heap.size w w' := by
  obtain ⟨x0, x1, x2, x3, wx, ex⟩ := words_of (x := hashNum hb 32) (hash_lt hh)
  have same : ∀ {x0 x1 x2 x3 : Nat}, Words x0 x1 x2 x3 → EqIs x0 x1 x2 x3 x0 x1 x2 x3 true := fun h => eqIs h h true (by symm; rw [decide_eq_true_iff])
  have by' : Bytes (fun j => val a0 a1 a2 a3 / 2 ^ (8 * j) % 256) := fun k _ => Nat.mod_lt _ (by decide)
  have num : hashNum (fun j => val a0 a1 a2 a3 / 2 ^ (8 * j) % 256) 32 = val a0 a1 a2 a3 := by
    rw [num_bytes, show (2 : Nat) ^ (8 * 32) = 115792089237316195423570985008687907853269984665640564039457584007913129639936 by decide]
    exact Nat.mod_eq_of_lt (val_lt ha)
  have back : rowOf (fun j => val x0 x1 x2 x3 / 2 ^ (8 * j) % 256) = rowOf hb := rowOf_same fun j hj => by
    rw [ex]; exact num_byte hh 32 (by omega) j hj
  have lit : ∀ f : Nat → Nat, rowOf f = #[.int .u8 (f 0 : Nat), .int .u8 (f 1 : Nat), .int .u8 (f 2 : Nat), .int .u8 (f 3 : Nat), .int .u8 (f 4 : Nat), .int .u8 (f 5 : Nat), .int .u8 (f 6 : Nat), .int .u8 (f 7 : Nat), .int .u8 (f 8 : Nat), .int .u8 (f 9 : Nat), .int .u8 (f 10 : Nat), .int .u8 (f 11 : Nat), .int .u8 (f 12 : Nat), .int .u8 (f 13 : Nat), .int .u8 (f 14 : Nat), .int .u8 (f 15 : Nat), .int .u8 (f 16 : Nat), .int .u8 (f 17 : Nat), .int .u8 (f 18 : Nat), .int .u8 (f 19 : Nat), .int .u8 (f 20 : Nat), .int .u8 (f 21 : Nat), .int .u8 (f 22 : Nat), .int .u8 (f 23 : Nat), .int .u8 (f 24 : Nat), .int .u8 (f 25 : Nat), .int .u8 (f 26 : Nat), .int .u8 (f 27 : Nat), .int .u8 (f 28 : Nat), .int .u8 (f 29 : Nat), .int .u8 (f 30 : Nat), .int .u8 (f 31 : Nat)] := fun f => rfl
  have ref : ∀ {f : Nat → Nat} {o0 o1 o2 o3 : Nat}, Bytes f → Words o0 o1 o2 o3 → val o0 o1 o2 o3 = hashNum f 32 → ∀ w : World, Calls Try.prog 30 #[.agg (rowOf f)] w fun e w' => e = .returned (.agg #[.int .u64 (o0 : Nat), .int .u64 (o1 : Nat), .int .u64 (o2 : Nat), .int .u64 (o3 : Nat)]) ∧ Below w.heap.size w w' := fun {f} {o0 o1 o2 o3} hf ho ev w =>
    (refOfHash_any hf (rowOf f) (rowOf_get f) w).mono fun e w' ⟨p0, p1, p2, p3, he, wp, vp, hbl⟩ => by
      rw [Nat.mod_eq_of_lt (hash_lt hf), ← ev] at vp
      obtain ⟨rfl, rfl, rfl, rfl⟩ := val_inj wp ho vp
      exact ⟨he, hbl⟩
  have own : ∀ {f : Nat → Nat} {o0 o1 o2 o3 : Nat}, Bytes f → Words o0 o1 o2 o3 → val o0 o1 o2 o3 = hashNum f 32 → ∀ w : World, Calls Try.prog 28 #[.agg (rowOf f)] w fun e w' => e = .returned (.agg #[.int .u64 (o0 : Nat), .int .u64 (o1 : Nat), .int .u64 (o2 : Nat), .int .u64 (o3 : Nat)]) ∧ Below w.heap.size w w' := fun {f} {o0 o1 o2 o3} hf ho ev w => by
    rw [lit]; exact ofHashIs hf ho ev w
  rw [← lit]
  exact hashes_walk (rowOf hb) (rowOf fun j => val a0 a1 a2 a3 / 2 ^ (8 * j) % 256) a0 a1 a2 a3 x0 x1 x2 x3 (rowOf_size _) (rowOf_size _) (rowOf_cells _) w
    (own hh wx ex) (fun w => toHash_any ha w) (ref hh wx ex) (fun w => refToHash_any ha w) (fun w => by have := toHash_any wx w; unfold HPost at this; rw [back] at this; exact this) (own by' ha num.symm)
    (eq_hash _) (eq_hash _) (same wx) (same ha)

set_option maxRecDepth 100000 in
theorem bigHashes_lifted (os : Os) (started : os.Started) (H : Type) (enc : TypeId × Value → H) :
    ReturnsInHanded {} Try.checked os 5 .any (Rows.bigHashesSpec.pre6 enc Try.prog Try.f5 Rows.bigHashesRow.domain false) (Rows.bigHashesSpec.post enc Try.prog Try.f5 false true false false) := by
  refine returnsInHanded_of_change (C := Try.checked) Try.own started (by kernel_rfl) Try.func5
    (ChangeSpec.witness6 (enc := enc) (C := Try.checked) false ⟨#[], #[.agg #[.int .u8 0, .int .u8 0, .int .u8 0, .int .u8 0, .int .u8 0, .int .u8 0, .int .u8 0, .int .u8 0, .int .u8 0, .int .u8 0, .int .u8 0, .int .u8 0, .int .u8 0, .int .u8 0, .int .u8 0, .int .u8 0, .int .u8 0, .int .u8 0, .int .u8 0, .int .u8 0, .int .u8 0, .int .u8 0, .int .u8 0, .int .u8 0, .int .u8 0, .int .u8 0, .int .u8 0, .int .u8 0, .int .u8 0, .int .u8 0, .int .u8 0, .int .u8 0], .agg #[.int .u64 0, .int .u64 0, .int .u64 0, .int .u64 0]], []⟩ 8 (by kernel_rfl) (by kernel_rfl) (by kernel_rfl) (by kernel_rfl)) ?_
  intro W base args ds gs before hval0 hW hcnd _
  have hval : ∀ (j : Nat) t v, Try.f5.params[j]? = some t → args[j]? = some v → Value.okWide Try.prog W .any base t v := hval0
  have hW' := hW
  obtain ⟨p, q, hA0, hV, rfl, hfz, hnd⟩ := hW
  have hA : DataW.TrodAll enc Try.prog W 0 (fun _ => true) true Try.f5.params.toList args.toList ds p := hA0
  rw [Try.params5] at hA hval
  obtain ⟨v0, vs0, d0, ds0, p0, q0, hargs, rfl, rfl, h0, r0⟩ := trodAll_cons hA
  obtain ⟨v1, vs1, d1, ds1, p1, q1, rfl, rfl, rfl, h1, r1⟩ := trodAll_cons r0
  obtain ⟨rfl, rfl, rfl⟩ := trodAll_nil r1
  obtain rfl : args = #[v0, v1] := by cases args; simp_all
  obtain ⟨rfl, rfl⟩ := trodVars_none hV
  have lt0 : ∀ x ∈ p0, x.block < W.heap.size := by obtain ⟨m, hm⟩ := h0; exact DataW.trod_lt m _ _ _ hm
  have lt1 : ∀ x ∈ p1, x.block < W.heap.size := by obtain ⟨m, hm⟩ := h1; exact DataW.trod_lt m _ _ _ hm
  obtain ⟨a, wa, rfl⟩ := open_hash (hval 0 40 v0 rfl rfl) h0
  obtain ⟨b0, b1, b2, b3, wb, rfl⟩ := open_big (hval 1 24 v1 rfl rfl) h1
  clear hA0 hval0
  refine (hashes_any a b0 b1 b2 b3 wa wb W).mono fun e W' ⟨he, bel⟩ => ?_
  subst he
  exact ⟨_, rfl, _, _, _, [], _, [], hW', trodAll_mk1 (shut_bool Try.underlying4 _), (trodAll_cons_mk (Below.trod Try.laidOut (by kernel_rfl) (of_decide_eq_true (by kernel_rfl)) h0 bel lt0) (trodAll_cons_mk (Below.trod Try.laidOut (by kernel_rfl) (of_decide_eq_true (by kernel_rfl)) h1 bel lt1) trodAll_mk0)), rfl, bel.frame _, fun h => by cases h⟩

theorem bigHashes_holds : Rows.BigHashesSaid :=
  OpenClaim.holds_of_wide 5 Try.f5 rfl rfl rfl rfl rfl rfl rfl ⟨rfl, rfl, rfl, rfl, rfl⟩ rfl rfl rfl rfl rfl (by kernel_rfl) Try.func5 (by kernel_rfl)
    (of_decide_eq_true (by kernel_rfl)) (by unfold Func.isWrapper; rw [if_neg (of_decide_eq_false (by kernel_rfl))]; exact ⟨rfl, rfl⟩)
    (fun os started H enc _ => bigHashes_lifted os started H enc)

end Go.Proofs.Ytcjggdoopehkpaa
