/- What is not heavy weighs little. No condition. -/
import Derived.Test.YtbdjcbdnhaddoaaDoorGt
import Derived.Deep.Cut
import Derived.Deep.CutRange
import Derived.Deep.CutBlock
import Derived.Test.YtbdjcbdnhaddoaaDoorGg
import Derived.Test.YtbdjcbdnhaddoaaDoorSameB

namespace Go.Proofs.YtbdjcbdnhaddoaaDoor
open Go.RowKit

def wI (i : InD) : Nat := 41 + i.s.length + (i.w.map fun x => 1 + x.length).sum
def wO (o : OutD) : Nat := 9 + o.s.length
theorem weigh_eq (t : TxD) : weigh t = (t.ins.map wI).sum + (t.outs.map wO).sum := rfl
theorem sum_snoc {α : Type} {f : α → Nat} {l : List α} {k : Nat} {x : α} (h : l.take (k + 1) = l.take k ++ [x]) : ((l.take (k + 1)).map f).sum = ((l.take k).map f).sum + f x := by
  rw [h, List.map_append, List.sum_append]; simp

set_option maxRecDepth 100000 in
set_option maxHeartbeats 8000000 in
theorem heavy_any {t : TxD} {Ai : Option Addr} {ni ci : Nat} {Ao : Option Addr} {no co : Nat} (w : World) (hT : TxR w t Ai ni ci Ao no co) :
    Calls Tryd.prog 11 #[.agg (txV t.ver Ai ni ci Ao no co t.lock).toArray] w fun e w' => ∃ b, e = .returned (.bool b) ∧ (b = false → weigh t ≤ 32768) ∧ Below w.heap.size w w' := by
  have B1 := Lib.hid ((Below.refl w.heap.size w).alloc (Nat.le_refl _) (.cells (txV t.ver Ai ni ci Ao no co t.lock).toArray 26))
  have R1 := Ro.new w 26 (txV t.ver Ai ni ci Ao no co t.lock)
  have c1 := R1.cell (k := 1) (v := .slice Ai ni ci) rfl
  have c2 := R1.cell (k := 2) (v := .slice Ao no co) rfl
  have T1 := Lib.hid (hT.later B1.out)
  have NI := Lib.hid hT.ins.len
  have NO := Lib.hid hT.outs.len
  have hni := hT.i2
  have hno := hT.o2
  clear R1 hT
  go_enter Tryd.func11, Tryd.ntmps11
  go_upto_block 0 with fail
  obtain ⟨w1, hw1⟩ : ∃ w1, w.alloc (.cells (txV t.ver Ai ni ci Ao no co t.lock).toArray 26) = w1 := ⟨_, rfl⟩
  rw [hw1] at B1 c1 c2 T1 ⊢
  clear hw1
  go_cut [3] from 7 to 55 (fun nv wx => ∃ n : Nat, nv = .int .i64 (n : Int) ∧ n ≤ 281474976710656 ∧ Hid (n = (t.ins.map wI).sum ∨ 32768 < n) ∧ wx = w1)
  case first =>
    go_wp2_with fail
    go_loopw [3, 4] (fun nv i wr => ∃ (k n : Nat), k ≤ ni ∧ i = .int .i64 (k : Int) ∧ nv = .int .i64 (n : Int) ∧ n ≤ 281474976710656 ∧ Hid (n = ((t.ins.take k).map wI).sum ∨ 32768 < n) ∧ wr = w1) (fun _ i _ => ni - (intOf i).toNat)
    case atStart => exact ⟨0, 0, Nat.zero_le _, rfl, rfl, by decide, Lib.hid (.inl rfl), rfl⟩
    case round =>
      obtain ⟨k, n, hk, rfl, rfl, hn, HN, hw⟩ := hrel
      replace hw := hw.symm
      subst hw
      by_cases hlt : k < ni
      · have t1 : decide ((k : Int) < (ni : Int)) = true := decide_eq_true (by omega)
        by_cases hn2 : n ≤ 32768
        · have t2 : decide ((n : Int) ≤ 32768) = true := decide_eq_true (by omega)
          obtain ⟨i0, hi, htk, him⟩ := getL NI.out hlt
          have HTK := Lib.hid (sum_snoc (f := wI) htk)
          obtain ⟨b, o, _, rfl, _⟩ := T1.out.ins.cel (by omega)
          have ad := add_at b o
          obtain ⟨hb, V, hV, hr, As, ns, cs, Aw, nw, cw, rfl, hI⟩ := T1.out.ins.nth hi
          have c3 := hr 33 _ (inV_at i0.h hI.ok.h i0.n As ns cs i0.q Aw nw cw).2.1
          have c4 := hr 35 _ (inV_at i0.h hI.ok.h i0.n As ns cs i0.q Aw nw cw).2.2.2
          have hns := hI.s2
          have hnw := hI.w2
          have HS := Lib.hid hI.s.bs.len
          have HW := Lib.hid hI.w
          have HWL := Lib.hid hI.w.len
          have HN2 : Hid (n = ((t.ins.take k).map wI).sum) := Lib.hid (by rcases HN.out with h | h <;> omega)
          clear hi htk him hr hV hI HN
          go_wp2_with fail
          go_loopw [3, 5] (fun nv i wr => ∃ (j m : Nat), j ≤ nw ∧ i = .int .i64 (j : Int) ∧ nv = .int .i64 (m : Int) ∧ m ≤ 281474976710656 ∧ Hid (m = n + 41 + ns + ((i0.w.take j).map fun x => 1 + x.length).sum ∨ 32768 < m) ∧ wr = w1) (fun _ i _ => nw - (intOf i).toNat)
          case atStart => exact ⟨0, n + 41 + ns, Nat.zero_le _, rfl, by go_num, by omega, Lib.hid (.inl rfl), rfl⟩
          case round =>
            obtain ⟨j, m, hj, rfl, rfl, hm, HM, hw⟩ := hrel
            replace hw := hw.symm
            subst hw
            by_cases hlj : j < nw
            · have t3 : decide ((j : Int) < (nw : Int)) = true := decide_eq_true (by omega)
              by_cases hm2 : m ≤ 32768
              · have t4 : decide ((m : Int) ≤ 32768) = true := decide_eq_true (by omega)
                obtain ⟨x, hx, htx, _⟩ := getL HWL.out hlj
                have HTX := Lib.hid (sum_snoc (f := fun x : List Nat => 1 + x.length) htx)
                obtain ⟨b2, o2, _, rfl, _⟩ := HW.out.cel (by omega)
                have ad2 := add_at b2 o2
                obtain ⟨_, V, _, hr, B, q, d, rfl, hq1, hq2, hq3⟩ := HW.out.nth hx
                have c5 := hr 0 _ rfl
                rw [Nat.mul_one, Nat.add_zero] at c5
                have HXL := Lib.hid hq3.bs.len
                have HM2 : Hid (m = n + 41 + ns + ((i0.w.take j).map fun x => 1 + x.length).sum) := Lib.hid (by rcases HM.out with h | h <;> omega)
                clear hx htx hr hq3 HM
                go_wp2_with fail
                exact ⟨⟨j + 1, m + 1 + q, by omega, by go_num, by go_num, by omega, Lib.hid (.inl (by rw [HTX.out, HXL.out]; have := HM2.out; omega)), trivial⟩, by simp [intOf]; omega⟩
              · have t4 : decide ((m : Int) ≤ 32768) = false := decide_eq_false (by omega)
                go_wp2_with fail
                exact ⟨⟨k + 1, m, by omega, by go_num, rfl, hm, Lib.hid (.inr (by omega)), trivial⟩, by simp [intOf]; omega⟩
            · have t3 : decide ((j : Int) < (nw : Int)) = false := decide_eq_false (by omega)
              have e : j = nw := by omega
              have HM3 : Hid (m = ((t.ins.take (k + 1)).map wI).sum ∨ 32768 < m) := Lib.hid (by
                rcases HM.out with h | h
                · left
                  rw [HTK.out, h, List.take_of_length_le (by rw [HWL.out]; omega)]
                  unfold wI
                  have := HS.out
                  have := HN2.out
                  unfold wI at this
                  omega
                · exact .inr h)
              clear e
              go_wp2_with fail
              exact ⟨⟨k + 1, m, by omega, by go_num, rfl, hm, HM3, trivial⟩, by simp [intOf]; omega⟩
        · have t2 : decide ((n : Int) ≤ 32768) = false := decide_eq_false (by omega)
          go_wp2_with fail
          go_meet
          exact ⟨n, rfl, hn, Lib.hid (.inr (by omega)), rfl⟩
      · have t1 : decide ((k : Int) < (ni : Int)) = false := decide_eq_false (by omega)
        have e : k = ni := by omega
        have HN3 : Hid (n = (t.ins.map wI).sum ∨ 32768 < n) := Lib.hid (by
          have h := HN.out
          rwa [List.take_of_length_le (by rw [NI.out]; omega)] at h)
        clear e
        go_wp2_with fail
        go_meet
        exact ⟨n, rfl, hn, HN3, rfl⟩
  case rest =>
    obtain ⟨n, rfl, hn, HN, hw⟩ := hcut
    replace hw := hw.symm
    subst hw
    clear c1
    go_wp2_with fail
    go_loopw [3, 6] (fun nv i wr => ∃ (k m : Nat), k ≤ no ∧ i = .int .i64 (k : Int) ∧ nv = .int .i64 (m : Int) ∧ m ≤ 281474976710656 ∧ Hid (m = (t.ins.map wI).sum + ((t.outs.take k).map wO).sum ∨ 32768 < m) ∧ wr = w1) (fun _ i _ => no - (intOf i).toNat)
    case atStart => exact ⟨0, n, Nat.zero_le _, rfl, rfl, hn, HN, rfl⟩
    case round =>
      obtain ⟨k, m, hk, rfl, rfl, hm, HM, hw⟩ := hrel
      replace hw := hw.symm
      subst hw
      by_cases hlt : k < no
      · have t1 : decide ((k : Int) < (no : Int)) = true := decide_eq_true (by omega)
        by_cases hm2 : m ≤ 32768
        · have t2 : decide ((m : Int) ≤ 32768) = true := decide_eq_true (by omega)
          obtain ⟨i0, hi, htk, him⟩ := getL NO.out hlt
          have HTK := Lib.hid (sum_snoc (f := wO) htk)
          obtain ⟨b, o, _, rfl, _⟩ := T1.out.outs.cel (by omega)
          have ad := add_at b o
          obtain ⟨hb, V, hV, hr, As, ns, cs, rfl, hI⟩ := T1.out.outs.nth hi
          have c3 := hr 1 _ rfl
          have hns := hI.s2
          have HS := Lib.hid hI.s.bs.len
          have HM2 : Hid (m = (t.ins.map wI).sum + ((t.outs.take k).map wO).sum) := Lib.hid (by rcases HM.out with h | h <;> omega)
          clear hi htk him hr hV hI HM
          go_wp2_with fail
          exact ⟨⟨k + 1, m + 9 + ns, by omega, by go_num, by go_num, by omega, Lib.hid (.inl (by rw [HTK.out]; unfold wO; have := HM2.out; unfold wO at this; have := HS.out; omega)), trivial⟩, by simp [intOf]; omega⟩
        · have t2 : decide ((m : Int) ≤ 32768) = false := decide_eq_false (by omega)
          have t3 : decide (32768 < (m : Int)) = true := decide_eq_true (by omega)
          go_wp2_with fail
          go_ret
          exact ⟨true, rfl, (fun h => nomatch h), B1.out⟩
      · have t1 : decide ((k : Int) < (no : Int)) = false := decide_eq_false (by omega)
        have e : k = no := by omega
        have HN3 : Hid (m = weigh t ∨ 32768 < m) := Lib.hid (by
          have h := HM.out
          rwa [List.take_of_length_le (by rw [NO.out]; omega)] at h)
        clear e
        by_cases hm2 : m ≤ 32768
        · have t3 : decide (32768 < (m : Int)) = false := decide_eq_false (by omega)
          go_wp2_with fail
          go_ret
          exact ⟨false, rfl, fun _ => by rcases HN3.out with h | h <;> omega, B1.out⟩
        · have t3 : decide (32768 < (m : Int)) = true := decide_eq_true (by omega)
          go_wp2_with fail
          go_ret
          exact ⟨true, rfl, (fun h => nomatch h), B1.out⟩
end Go.Proofs.YtbdjcbdnhaddoaaDoor

/- The document's example of a transaction. No condition. -/
namespace Go.Proofs.YtbdjcbdnhaddoaaDoor
open Go.RowKit

def z32 : List Nat := List.replicate 32 0
def smallI : InD := ⟨z32, 4294967295, [], 4294967295, []⟩
/-- The example, with whatever script. -/
def smallT (s : List Nat) : TxD := ⟨1, [smallI], [⟨5, s⟩], 0⟩
set_option maxRecDepth 100000 in
theorem build_smallI (w : World) : (Instr.build 56 #[(0, .agg (fromV z32 4294967295).toArray), (2, .int .u32 4294967295)]).run Tryd.prog w = .ok (.agg (inV z32 4294967295 none 0 0 4294967295 none 0 0).toArray) w := by kernel_rfl
theorem build_smallO (A : Option Addr) (w : World) : (Instr.build 46 #[(0, .int .u64 5), (1, .slice A 1 1)]).run Tryd.prog w = .ok (.agg (outV 5 A 1 1).toArray) w := by kernel_rfl
theorem build_smallT (A B : Option Addr) (w : World) : (Instr.build 26 #[(0, .int .u32 1), (1, .slice A 1 1), (2, .slice B 1 1)]).run Tryd.prog w = .ok (.agg (txV 1 A 1 1 B 1 1 0).toArray) w := by kernel_rfl
theorem smallI_ok : smallI.Ok := ⟨rfl, fun x hx => by have := List.eq_of_mem_replicate hx; omega, by decide, allB_nil, by decide, fun x hx => by cases hx⟩

/-- How the example lies. -/
structure SmallM (w1 : World) (lo g1 g2 : Nat) (Aw : Option Addr) (nw cw : Nat) (As : Option Addr) (ns cs : Nat) : Prop where
  i : Ro w1 g1 56 (inV z32 4294967295 none 0 0 4294967295 Aw nw cw)
  o : Ro w1 g2 46 (outV 5 As ns cs)
  l1 : lo ≤ g1
  l2 : lo ≤ g2
  ne : g1 ≠ g2
theorem SmallM.later {w1 w2 : World} {lo g1 g2 : Nat} {Aw : Option Addr} {nw cw : Nat} {As : Option Addr} {ns cs : Nat} (S : SmallM w1 lo g1 g2 Aw nw cw As ns cs) (g : Below w1.heap.size w1 w2) : SmallM w2 lo g1 g2 Aw nw cw As ns cs := ⟨S.i.later g, S.o.later g, S.l1, S.l2, S.ne⟩
theorem SmallM.tx {w1 : World} {lo g1 g2 : Nat} {Aw : Option Addr} {nw cw : Nat} {As : Option Addr} {ns cs : Nat} (S : SmallM w1 lo g1 g2 Aw nw cw As ns cs) {ws : List (List Nat)} {s : List Nat} (hw : Rows w1 (fun b => lo ≤ b) 1 BsR Aw nw ws) (w1' : nw ≤ cw) (w2' : nw ≤ 140737488351232) (hws : AllBB ws) (hs : BsP w1 (fun b => lo ≤ b) As ns s) (s1 : ns ≤ cs) (s2 : ns ≤ 140737488351232) :
    TxG w1 (fun b => lo ≤ b) ⟨1, [withW smallI ws], [⟨5, s⟩], 0⟩ (some ⟨g1, 0, none⟩) 1 1 (some ⟨g2, 0, none⟩) 1 1 :=
  ⟨(by decide : 1 < 4294967296), (by decide : 0 < 4294967296), Nat.le_refl _, by decide,
   ⟨rfl, fun _ => ⟨g1, 0, _, rfl, S.i.lt, S.l1, S.i.whole, Each.one (inV_len rfl _ _ _ _ _ _ _ _) ⟨none, 0, 0, Aw, nw, cw, rfl, ⟨smallI_ok.h, smallI_ok.hb, smallI_ok.n, smallI_ok.s, smallI_ok.q, hws⟩, Nat.le_refl _, by decide, BsP.nil _ _ _, w1', w2', hw⟩⟩⟩, Nat.le_refl _, by decide,
   ⟨rfl, fun _ => ⟨g2, 0, _, rfl, S.o.lt, S.l2, S.o.whole, Each.one rfl ⟨As, ns, cs, rfl, ⟨(by decide : 5 < 18446744073709551616), hs.bs.byt⟩, s1, s2, hs⟩⟩⟩⟩

theorem Bs.inp {w : World} {g n : Nat} {L : List Nat} {P : Nat → Prop} (h : Bs w (some ⟨g, 0, none⟩) n L) (hp : P g) : BsP w P (some ⟨g, 0, none⟩) n L := ⟨h, fun _ a e => by injection e with e; subst e; exact hp⟩
theorem Bs.off {w w' : World} {g r n : Nat} {L : List Nat} (h : Bs w (some ⟨g, 0, none⟩) n L) (G : Gr r w w') (hne : g ≠ r) : Bs w' (some ⟨g, 0, none⟩) n L := h.far G (fun a e1 e2 => by injection e1 with e1; subst e1; injection e2 with e2; exact hne e2)
set_option maxRecDepth 100000 in
set_option maxHeartbeats 4000000 in
theorem small_any (w : World) : Calls Tryd.prog 28 #[] w fun e w' => ∃ g1 g2 g3, e = .returned (.agg (txV 1 (some ⟨g1, 0, none⟩) 1 1 (some ⟨g2, 0, none⟩) 1 1 0).toArray) ∧ SmallM w' w.heap.size g1 g2 none 0 0 (some ⟨g3, 0, none⟩) 1 1 ∧ Bs w' (some ⟨g3, 0, none⟩) 1 [81] ∧ (w.heap.size ≤ g3 ∧ g3 ≠ g1 ∧ g3 ≠ g2) ∧ Below w.heap.size w w' := by
  have z0 := zeroTx
  have BF := Lib.hid (show ∀ w, (Instr.build 53 #[(1, .int .u32 4294967295)]).run Tryd.prog w = .ok (.agg (fromV z32 4294967295).toArray) w from build_from)
  have BI := Lib.hid build_smallI
  have BO := Lib.hid build_smallO
  have BT := Lib.hid build_smallT
  obtain ⟨F, hF⟩ : ∃ F, fromV z32 4294967295 = F := ⟨_, rfl⟩
  obtain ⟨V, hV⟩ : ∃ F, inV z32 4294967295 none 0 0 4294967295 none 0 0 = F := ⟨_, rfl⟩
  have VL : Hid (V.length = 36) := Lib.hid (by rw [← hV]; exact inV_len rfl _ _ _ _ _ _ _ _)
  have HV := Lib.hid hV
  rw [hF] at BF BI
  rw [hV] at BI
  have b1 := (Below.refl w.heap.size w).alloc (Nat.le_refl _) (.cells zTx.toArray 26)
  have P1 := Lib.hid (Ro.new w 26 zTx)
  have B1 := Lib.hid b1
  clear b1 hF hV
  go_enter Tryd.func28, Tryd.ntmps28
  go_wp2_with (first
    | (refine wpList_plain rfl fun _ hK => wp_buildR rfl 53 #[(1, .const (.int .u32 4294967295))] rfl (us := #[(1, .int .u32 4294967295)]) (by simp [go_sem]) (BF.out _) (hK _ _ ?_))
    | (refine wpList_plain rfl fun _ hK => wp_buildR rfl 56 #[(0, .tmp 1), (2, .const (.int .u32 4294967295))] rfl (us := #[(0, .agg F.toArray), (2, .int .u32 4294967295)]) (by simp [go_sem]) (BI.out _) (hK _ _ ?_))
    | (refine wpList_plain rfl fun _ hK => wp_lit1 elemI (by decide) rfl (.tmp 2) rfl rfl VL.out (hK _ _ ?_))
    | (refine wpList_plain rfl fun _ hK => wp_buildR rfl 46 #[(0, .const (.int .u64 5)), (1, .tmp 4)] rfl (us := #[(0, .int .u64 5), (1, .slice (some ⟨w.heap.size + 1 + 1, 0, none⟩) 1 1)]) (by simp [go_sem]) (BO.out _ _) (hK _ _ ?_))
    | (refine wpList_plain rfl fun _ hK => wp_lit1 elemO (by decide) rfl (.tmp 5) rfl (V := outV 5 (some ⟨w.heap.size + 1 + 1, 0, none⟩) 1 1) rfl rfl (hK _ _ ?_))
    | (refine wpList_store_ro rfl (.tmp 0) (.tmp 7) rfl (vs := txV 1 (some ⟨w.heap.size + 1, 0, none⟩) 1 1 (some ⟨w.heap.size + 1 + 1 + 1, 0, none⟩) 1 1 0) rfl rfl rowTx (((P1.out.alloc _).alloc _).alloc _) rfl rfl (txV_one _ _ _ _ _ _ _ _) ?_))
  intro w5 R5 g5
  obtain ⟨w1, hw1⟩ : ∃ w1, w.alloc (.cells zTx.toArray 26) = w1 := ⟨_, rfl⟩
  have s1 : w1.heap.size = w.heap.size + 1 := by rw [← hw1, World.size_alloc]
  rw [hw1] at B1 g5
  have b1 := (Below.refl w1.heap.size w1).alloc (Nat.le_refl _) (.cells V.toArray 56)
  have r1 := Ro.new w1 56 V
  obtain ⟨w2, hw2⟩ : ∃ w2, w1.alloc (.cells V.toArray 56) = w2 := ⟨_, rfl⟩
  have s2 : w2.heap.size = w.heap.size + 2 := by rw [← hw2, World.size_alloc, s1]
  rw [hw2] at b1 r1 g5
  have b2 := (Below.refl w2.heap.size w2).alloc (Nat.le_refl _) (.cells #[.int .u8 81] 5)
  have r2 := Bs.lit1 w2 (x := 81) (by decide)
  change Bs (w2.alloc (.cells #[.int .u8 81] 5)) _ _ _ at r2
  obtain ⟨w3, hw3⟩ : ∃ w3, w2.alloc (.cells #[.int .u8 81] 5) = w3 := ⟨_, rfl⟩
  have s3 : w3.heap.size = w.heap.size + 3 := by rw [← hw3, World.size_alloc, s2]
  rw [hw3] at b2 r2 g5
  rw [s2] at r2
  obtain ⟨O, hO⟩ : ∃ O, outV 5 (some ⟨w.heap.size + 1 + 1, 0, none⟩) 1 1 = O := ⟨_, rfl⟩
  rw [hO] at g5
  have b3 := (Below.refl w3.heap.size w3).alloc (Nat.le_refl _) (.cells O.toArray 46)
  have r3 := Ro.new w3 46 O
  obtain ⟨w4, hw4⟩ : ∃ w4, w3.alloc (.cells O.toArray 46) = w4 := ⟨_, rfl⟩
  have s4 : w4.heap.size = w.heap.size + 4 := by rw [← hw4, World.size_alloc, s3]
  rw [hw4] at b3 r3 g5
  rw [s1] at r1
  rw [s3] at r3
  have bb := B1.out.trans ((b1.mono (by omega)).trans ((b2.mono (by omega)).trans (b3.mono (by omega))) : Below w.heap.size w1 w4)
  have K5 : Kept (fun b => w.heap.size + 1 ≤ b) w4 w5 := kept_off g5 (by omega)
  have q1 : Ro w4 (w.heap.size + 1) 56 V := (r1.later b2).later b3
  have q2 : Bs w4 (some ⟨w.heap.size + 1 + 1, 0, none⟩) 1 [81] := r2.later b3
  have SM : SmallM w4 w.heap.size (w.heap.size + 1) (w.heap.size + 1 + 1 + 1) none 0 0 (some ⟨w.heap.size + 1 + 1, 0, none⟩) 1 1 := ⟨by rw [HV.out]; exact q1, by rw [hO]; exact r3, by omega, by omega, by omega⟩
  have S5 : Hid (SmallM w5 w.heap.size (w.heap.size + 1) (w.heap.size + 1 + 1 + 1) none 0 0 (some ⟨w.heap.size + 1 + 1, 0, none⟩) 1 1) := Lib.hid ⟨SM.i.far g5 (fun e => by injection e; omega), SM.o.far g5 (fun e => by injection e; omega), SM.l1, SM.l2, SM.ne⟩
  have Q5 : Hid (Bs w5 (some ⟨w.heap.size + 1 + 1, 0, none⟩) 1 [81]) := Lib.hid (q2.far g5 (fun a e1 e2 => by injection e1 with e1; subst e1; injection e2 with e2; have : w.heap.size + 1 + 1 = w.heap.size := e2; omega))
  have B5 := Lib.hid (bb.grown g5 bb.size (fun q e => by injection e; omega))
  have HR5 := Lib.hid R5
  clear R5 g5 SM q1 q2 K5 bb b1 b2 b3 r1 r2 r3
  go_wp2_with fail
  exact bodyPost_ret (results_ro Tryd.results28 _ rfl rowTx HR5.out rfl) rfl ⟨_, _, _, rfl, S5.out, Q5.out, ⟨by omega, by omega, by omega⟩, B5.out⟩
end Go.Proofs.YtbdjcbdnhaddoaaDoor

/- What the anchor of layer 9 looks at, over lists. No condition. -/
namespace Go.Proofs.YtbdjcbdnhaddoaaDoor
open Go.RowKit

def small2 : TxD := ⟨1, [withW smallI [[]]], [⟨5, [81]⟩], 0⟩
set_option maxRecDepth 100000 in
theorem ex_put : putS (smallT [81]) = [1, 0, 0, 0, 1, 0, 0, 0, 0, 0, 0, 0, 0, 0, 0, 0, 0, 0, 0, 0, 0, 0, 0, 0, 0, 0, 0, 0, 0, 0, 0, 0, 0, 0, 0, 0, 0, 255, 255, 255, 255, 0, 255, 255, 255, 255, 1, 5, 0, 0, 0, 0, 0, 0, 0, 1, 81, 0, 0, 0, 0] := by kernel_rfl
set_option maxRecDepth 100000 in
theorem ex_len : (putS (smallT [81])).length = 61 := by kernel_rfl
set_option maxRecDepth 100000 in
theorem ex_bare : bareS small2 = putS (smallT [81]) := by kernel_rfl
set_option maxRecDepth 100000 in
theorem ex_may : decide (May (smallT [81])) = true := by kernel_rfl
set_option maxRecDepth 100000 in
theorem ex_may2 : decide (May small2) = true := by kernel_rfl
set_option maxRecDepth 100000 in
theorem ex_zero : decide (May zeroT) = false := by kernel_rfl
set_option maxRecDepth 100000 in
theorem ex_mint : mintS small2 = true := by kernel_rfl
set_option maxRecDepth 100000 in
theorem ex_differ : decide (smallT [81] = small2) = false := by kernel_rfl
set_option maxRecDepth 100000 in
theorem ex_cut : getE ((putS (smallT [81])).take 60) = 5 := by kernel_rfl
set_option maxRecDepth 100000 in
theorem ex_put2 : putS small2 = [1, 0, 0, 0, 0, 1, 1, 0, 0, 0, 0, 0, 0, 0, 0, 0, 0, 0, 0, 0, 0, 0, 0, 0, 0, 0, 0, 0, 0, 0, 0, 0, 0, 0, 0, 0, 0, 0, 0, 255, 255, 255, 255, 0, 255, 255, 255, 255, 1, 5, 0, 0, 0, 0, 0, 0, 0, 1, 81, 1, 0, 0, 0, 0, 0] := by kernel_rfl
theorem ex_len2 : (putS small2).length = 65 := by rw [ex_put2]; rfl
theorem smallT_ok (s : List Nat) (h : AllB s) : (smallT s).Ok := ⟨(by decide : 1 < 4294967296), fun i hi => by
  have : i = smallI := by simpa [smallT] using hi
  rw [this]; exact smallI_ok, fun o ho => by
  have : o = ⟨5, s⟩ := by simpa [smallT] using ho
  rw [this]; exact ⟨(by decide : 5 < 18446744073709551616), h⟩, (by decide : 0 < 4294967296)⟩
theorem allBB_one : AllBB [[]] := fun x hx => by
  have : x = [] := by simpa using hx
  rw [this]; exact allB_nil
theorem small2_ok : small2.Ok := ⟨(by decide : 1 < 4294967296), fun i hi => by
  have : i = withW smallI [[]] := by simpa [small2] using hi
  rw [this]; exact ⟨smallI_ok.h, smallI_ok.hb, smallI_ok.n, smallI_ok.s, smallI_ok.q, fun x hx => by
    have : x = [] := by simpa [withW] using hx
    rw [this]; exact allB_nil⟩, fun o ho => by
  have : o = ⟨5, [81]⟩ := by simpa [small2] using ho
  rw [this]; exact ⟨(by decide : 5 < 18446744073709551616), allB_one (by decide)⟩, (by decide : 0 < 4294967296)⟩
theorem ex_get : getE (putS (smallT [81])) = 0 ∧ getT (putS (smallT [81])) = smallT [81] := by
  refine get_put (smallT_ok _ (allB_one (by decide))) ⟨by decide, by decide, fun i hi => ?_, fun o ho => ?_⟩ (of_decide_eq_true ex_may)
  · have : i = smallI := by simpa [smallT] using hi
    rw [this]; exact ⟨by decide, by decide, fun x hx => by cases hx⟩
  · have : o = ⟨5, [81]⟩ := by simpa [smallT] using ho
    rw [this]; exact by decide
theorem ex_w1 : weigh (smallT [81]) ≤ 100000000 := by decide
theorem ex_w2 : weigh small2 ≤ 100000000 := by decide
theorem ex_w0 : weigh zeroT ≤ 100000000 := by decide
section
variable {o : Oper} {a : Act}
theorem quiet_buildR {D : World → Prop} {K : Act → Prop} (T : TypeId) (parts : Array (Nat × Operand)) (ho : o.op = .build T parts) {vs : Array (Nat × Value)} {v : Value} (hx : (parts.map fun y => (y.1, a.eval y.2)) = vs) (hrun : ∀ w, (Instr.build T vs).run Tryd.prog w = .ok v w)
    (hk : K (a.put o.dst v)) : o.quiet Tryd.prog a D K :=
  ⟨v, fun w _ => by
    have hx' : (parts.map fun (x : Nat × Operand) => match x with | (i, x) => (i, a.eval x)) = vs := hx
    unfold Oper.quietAt execOp
    simp only [ho, Sem.run_bind, hx', hrun w, Result.andThen_ok, Sem.run_pure]
    exact ⟨rfl, rfl⟩, hk⟩
end
theorem build_zero (w : World) : (Instr.build 26 #[]).run Tryd.prog w = .ok (.agg zTx.toArray) w := by kernel_rfl
end Go.Proofs.YtbdjcbdnhaddoaaDoor
