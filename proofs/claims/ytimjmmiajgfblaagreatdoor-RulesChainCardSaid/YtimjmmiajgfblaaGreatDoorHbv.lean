/- A chain that was made is right, header by header. No memory. No condition. -/
import Derived.Test.YtimjmmiajgfblaaGreatDoorGbu

namespace Go.Proofs.YtimjmmiajgfblaaGreatDoor
set_option maxRecDepth 100000

/-- A header that breaks no rule but perhaps a point's. -/
structure Good (p : Pm) (l : List Hd) (h : Hd) : Prop where
  prev : h.p = idS (lastH l)
  bits : h.b = bitsS p l
  work : meetsN (idS h) (tgtN h.b) = true
  time : medS l < h.t
theorem right_good {p : Pm} {l : List Hd} {h : Hd} (hm : mayS p = true) (hl : l.length ≠ 0) (g : Good p l h) : rightS p l h = if ptBad p.pts l.length (idS h) = true then 13 else 0 := by
  unfold rightS
  rw [if_neg (by rw [hm]; simp), if_neg (by intro q; rcases q with q | q; exact hl q; exact q g.prev), if_neg (by intro q; exact q g.bits), if_neg (by rw [g.work]; simp), if_neg (by have := g.time; omega)]
theorem mineF_is {h g : Hd} {t : Nat} : ∀ (f n : Nat), mineF h t f n = some g → meetsN (idS g) t = true ∧ g.p = h.p ∧ g.b = h.b ∧ g.t = h.t
  | 0, _, e => by cases e
  | f + 1, n, e => by
    rw [mineF] at e
    split at e
    · rename_i hm
      injection e with e
      subst e
      exact ⟨hm, rfl, rfl, rfl⟩
    · exact mineF_is f (n + 1) e
theorem mineS_good {p : Pm} {l : List Hd} {time tries : Nat} {root : List Nat} {g : Hd} (h : mineS p l time root tries = some g) (ht : medS l < time) : Good p l g ∧ g.t = time := by
  unfold mineS at h
  split at h
  · cases h
  · split at h
    · obtain ⟨h1, h2, h3, h4⟩ := mineF_is _ _ h
      exact ⟨⟨h2, h3, by rw [h3]; exact h1, by rw [h4]; exact ht⟩, h4⟩
    · cases h
/-- Every header but the first one is good behind those ahead of it; their times are small. -/
structure ChOk (p : Pm) (l : List Hd) : Prop where
  pos : 0 < l.length
  good : ∀ i, 1 ≤ i → i < l.length → Good p (l.take i) (nthH l i)
  time : ∀ h ∈ l, h.t ≤ 1000 + 256 * l.length
theorem med_le {l : List Hd} {B : Nat} (hl : 0 < l.length) (h : ∀ x ∈ l, x.t ≤ B) : medS l ≤ B := by
  have h1 : 0 < (timesOf l).length := by unfold timesOf; simp; omega
  have := mid_in h1
  unfold timesOf at this
  obtain ⟨x, hx, e⟩ := List.mem_map.1 this
  rw [medS, timesOf, ← e]
  exact h x (List.mem_of_mem_drop hx)
theorem chOk_snoc {p : Pm} {l : List Hd} {g : Hd} {s k : Nat} (c : ChOk p l) (hs : s < 256) (hl : l.length ≤ 1000000) (h : mineS p l ((medS l + 1 + s) % 4294967296) (rootS k s) 200 = some g) : ChOk p (l ++ [g]) := by
  have hm := med_le c.pos c.time
  rw [Nat.mod_eq_of_lt (by omega)] at h
  obtain ⟨hg, ht⟩ := mineS_good h (by omega)
  refine ⟨by simp, fun i h1 h2 => ?_, fun x hx => ?_⟩
  · rw [List.length_append, List.length_singleton] at h2
    by_cases e : i = l.length
    · subst e
      have e1 : nthH (l ++ [g]) l.length = g := by simp [nthH, List.getD]
      rw [List.take_left, e1]
      exact hg
    · have hi : i < l.length := by omega
      have e2 : nthH (l ++ [g]) i = nthH l i := by simp [nthH, List.getD, List.getElem?_append_left hi]
      rw [List.take_append_of_le_length (by omega), e2]
      exact c.good i h1 hi
  · rw [List.length_append, List.length_singleton]
    rcases List.mem_append.1 hx with hx | hx
    · have := c.time x hx
      omega
    · rw [List.mem_singleton] at hx
      subst hx
      omega
theorem chOk_chainF {p : Pm} : ∀ (L : List Nat) (l : List Hd) (k : Nat), ChOk p l → (∀ x ∈ L, x < 256) → l.length + L.length ≤ 1000000 → ChOk p (chainF p l k L)
  | [], l, k, c, _, _ => by rw [chainF]; exact c
  | s :: t, l, k, c, hb, hl => by
    rw [List.length_cons] at hl
    cases h : mineS p l ((medS l + 1 + s) % 4294967296) (rootS k s) 200 with
    | none => rw [chainF_none h]; exact c
    | some g =>
      rw [chainF_some h]
      exact chOk_chainF t _ _ (chOk_snoc c (hb s (List.mem_cons_self ..)) (by omega) h) (fun x hx => hb x (List.mem_cons_of_mem _ hx)) (by rw [List.length_append, List.length_singleton]; omega)
theorem chain_ok {iv : Int} {sp : Nat} {L : List Nat} (hb : ∀ x ∈ L, x < 256) (hl : L.length ≤ 1000) : ChOk (easyS iv sp) (chainS (easyS iv sp) L) := by
  refine chOk_chainF L _ 0 ⟨by simp, fun i h1 h2 => by simp at h2; omega, fun x hx => ?_⟩ hb (by simp; omega)
  simp only [List.mem_singleton] at hx
  subst hx
  show 1000 ≤ _
  omega
theorem easy_lim (iv : Int) (sp : Nat) : limS (easyS iv sp) = true := by
  have h : limS (easyS 10 10) = true := by decide +kernel
  exact h
theorem easy_may {iv : Int} {sp : Nat} (h1 : 2 ≤ iv) (h2 : iv ≤ 2016) (h3 : 1 ≤ sp) (h4 : sp ≤ 3600) : mayS (easyS iv sp) = true := by
  have hn : numS (easyS iv sp) = true := decide_eq_true ⟨h1, h2, h3, h4⟩
  unfold mayS
  rw [easy_lim, hn]
  rfl
/-- The same with points. -/
theorem bits_pts (p : Pm) (ps : List (Int × List Nat)) (h1 : mayS p = true) (h2 : mayS { p with pts := ps } = true) (l : List Hd) : bitsS { p with pts := ps } l = bitsS p l := by
  unfold bitsS
  rw [h1, h2]
  rfl
theorem good_pts {p : Pm} {ps : List (Int × List Nat)} (h1 : mayS p = true) (h2 : mayS { p with pts := ps } = true) {l : List Hd} {h : Hd} (g : Good p l h) : Good { p with pts := ps } l h :=
  ⟨g.prev, by rw [bits_pts p ps h1 h2]; exact g.bits, g.work, g.time⟩
theorem may_pt {p : Pm} {k : Int} {H : List Nat} (h : mayS p = true) (hk : 1 ≤ k) : mayS { p with pts := [(k, H)] } = true := by
  unfold mayS at *
  simp only [Bool.and_eq_true] at *
  refine ⟨h.1, ?_⟩
  show ptsS (idS p.first) (-1) [(k, H)] = true
  rw [ptsS, if_neg (by simp only; omega), ptsS]
end Go.Proofs.YtimjmmiajgfblaaGreatDoor

/- RulesPoints walked: a point refuses every other header at its height, and says nothing at others. No condition but that the tables lie as laid. -/
namespace Go.Proofs.YtimjmmiajgfblaaGreatDoor
open Go.RowKit

section
variable {w : World} {ops : Array Oper} {rest : List Oper} {o : Oper} {a : Act} {Q : Exit → Act → World → Prop}
theorem Tryz.infoPt : (Tryz.prog.info? 63).map (fun i => (i.zero, i.size, i.bytes)) = some (some (.agg (ptV zeroP).toArray), 33, 40) := by kernel_rfl
theorem fill_pt (S : List Value) (hl : S.length = 33) (Z : Array Value) (hZ : Z.size = 33) : Instr.fill (fun i => some (i * 33, 33)) Z [(0, .agg S.toArray)] = some S.toArray := by
  have h := Go.Great.fill_whole (s := 33) (by decide) [.agg S.toArray] Z (by simp [Value.cells, hl]) (by simp [hZ])
  simpa [Value.cells] using h
theorem wpList_litP (hgd : o.guard = none) (x : Operand) (ho : o.op = .buildSlice 23 1 #[(0, x)]) {S : List Value} (hx : a.eval x = .agg S.toArray) (hl : S.length = 33)
    (h : wpList Tryz.prog ops Q rest (a.put o.dst (.slice (some ⟨w.heap.size, 0, none⟩) 1 1)) (w.alloc (.cells S.toArray 63))) : wpList Tryz.prog ops Q (o :: rest) a w := by
  obtain ⟨i0, hi, hz0, hz1, hz2⟩ := info_parts Tryz.infoPt
  refine wpList_buildSlice hgd 23 63 1 _ ho S.toArray i0 _ Tryz.underlying23 hi hz0 (by rw [hz1]; decide) (by rw [hz1]; decide) ?_ h
  rw [hz1]
  have e : (#[((0 : Nat), x)].map fun (y : Nat × Operand) => (y.1, a.eval y.2)).toList = [(0, .agg S.toArray)] := by simp [hx]
  exact (congrArg _ e).trans (fill_pt S hl _ (by simp))
end
theorem pmV_pts (p : Pm) (ps : List (Int × List Nat)) (A B : Option Addr) (n c m d : Nat) : (pmV p A n c).set 3 (.slice B m d) = pmV { p with pts := ps } B m d := rfl
theorem splice_pt {z : Int} {H I : List Nat} (hH : H.length = 32) (hI : I.length = 32) : splice (ptV (z, H)) 1 (vals I) = ptV (z, I) := by
  unfold splice ptV
  simp only [List.take_succ_cons, List.take_zero, vals_length, hI, List.cons_append, List.nil_append]
  rw [show 1 + 32 = 32 + 1 by rfl, List.drop_succ_cons, List.drop_of_length_le (by rw [vals_length, hH]; exact Nat.le_refl _), List.append_nil]
theorem ps_one {w : World} {b : Nat} {x : Int × List Nat} (R : Ro w b 63 (ptV x)) (o : PtOk x) : Ps w (some ⟨b, 0, none⟩) 1 [x] :=
  ⟨rfl, fun y hy => by rw [List.mem_singleton] at hy; subst hy; exact o, fun _ => ⟨b, 0, rfl, R.lt, fun k hk => by
    obtain rfl : k = 0 := by omega
    exact fun j v hj => by
      have := R.cell hj
      simpa using this⟩⟩
theorem Hs.put {w : World} {A : Option Addr} {n b k : Nat} {l : List Hd} {v : Value} (h : Hs w A n l) (hb : ∀ a, A = some a → a.block ≠ b) : Hs (w.setCell ⟨b, k, none⟩ v) A n l :=
  ⟨h.len, h.ok, fun hn => by
    obtain ⟨q, o, e, h1, h2⟩ := h.cel hn
    have hq := hb _ e
    refine ⟨q, o, e, by simpa using h1, fun j u hj => ?_⟩
    have := h2 j u hj
    unfold World.cell? at *
    rw [Below.heap_setCell w ⟨b, k, none⟩ v q hq]
    exact this⟩
theorem Hs.far {w w1 : World} {A : Option Addr} {n b : Nat} {l : List Hd} (h : Hs w A n l) (g : w.grownBy w1 (some b)) (hb : ∀ a, A = some a → a.block ≠ b) : Hs w1 A n l :=
  ⟨h.len, h.ok, fun hn => by
    obtain ⟨q, o, e, h1, h2⟩ := h.cel hn
    have hq := hb _ e
    have hg := g.block q h1 (fun e => by injection e with e; exact hq e)
    refine ⟨q, o, e, Nat.lt_of_lt_of_le h1 g.size, fun j u hj => ?_⟩
    have := h2 j u hj
    unfold World.cell? at *
    rw [hg]
    exact this⟩
theorem OwnH.apart {w0 w : World} {C : Option Addr} {m f b : Nat} {l : List Hd} (h : OwnH w0 (.slice C m f) m l w) (hb : b < w0.heap.size) : ∀ a, C = some a → a.block ≠ b := by
  intro a e
  subst e
  have := (h.new a.block rfl).1
  omega
theorem build_pt9 (z : Int) (w : World) : (Instr.build 63 #[(0, .int .i64 z), (1, .agg (vals (9 :: List.replicate 31 0)).toArray)]).run Tryz.prog w = .ok (.agg (ptV (z, 9 :: List.replicate 31 0)).toArray) w := by kernel_rfl
def h9 : List Nat := 9 :: List.replicate 31 0
theorem h9_ok : h9.length = 32 ∧ AllB h9 := ⟨by decide, by unfold AllB h9; decide⟩

set_option maxRecDepth 100000 in
set_option maxHeartbeats 8000000 in
theorem points_law {A : Option Addr} {n c hh : Nat} {L : List Nat} {rt : Bool} {w : World} (_ : n ≤ c) (_ : c ≤ 9223372036854775807) (hL : Bs w A n L) (hb : hh < 256) (_ : True) (hLd : Laid w) :
    Calls Tryz.prog 7 #[.slice A n c, .int .u8 (hh : Nat), .bool rt] w fun e w' => e = .returned (.bool true) ∧ Below w.heap.size w w' := by
  have HD := Lib.hid hLd
  have HL := Lib.hid hL
  have HN := Lib.hid hL.len
  have HBy := Lib.hid hL.byt
  have FIN : Hid (∀ wx, Below w.heap.size w wx → Calls Tryz.prog 9 #[] wx fun e w' => e = .returned (.bool true) ∧ Below w.heap.size w w') := Lib.hid (fun wx b => (works_any wx (HD.out.later HD.out.lt b)).mono fun e w' ⟨h1, h2⟩ => ⟨h1, b.trans (h2.mono b.size)⟩)
  have lP : Hid ((pmV (easyS 10 10) none 0 0).length = 72) := Lib.hid (pmV_len ezH_ok _ _ _)
  have o1 : Hid (∀ u ∈ pmV (easyS 10 10) none 0 0, u.oneCell' = true) := Lib.hid (pmV_one _ _ _ _)
  have l0 : Hid ((pmV zeroPm none 0 0).length = 72) := Lib.hid (pmV_len zeroH_ok _ _ _)
  have EP : Hid (∀ wx, PmR wx (easyS 10 10) none 0 0) := Lib.hid (fun wx => easy_r wx (by decide) (by decide) (by decide))
  have EM : Hid (mayS (easyS 10 10) = true) := Lib.hid (easy_may (by decide) (by decide) (by decide) (by decide))
  have CE := Lib.hid (easy_any 10 10)
  have z0 := zeroPm_run
  clear hLd hL
  by_cases h1 : 20 < n
  · have q1 : decide ((20 : Int) < (n : Int)) = true := decide_eq_true (by omega)
    go_enter Tryz.func7, Tryz.ntmps7
    go_wp2_with fail
    refine (FIN.out _ (Below.refl _ _)).mono ?_
    rintro e w2 ⟨rfl, hb⟩
    have HB := Lib.hid hb
    go_wp2_with fail
    go_ret
    exact ⟨rfl, HB.out⟩
  have q1 : decide ((20 : Int) < (n : Int)) = false := decide_eq_false (by omega)
  have CK : Hid (ChOk (easyS 10 10) (chainS (easyS 10 10) L)) := Lib.hid (chain_ok (fun x hx => HBy.out x hx) (by rw [HN.out]; omega))
  obtain ⟨p, hp⟩ : ∃ p, easyS 10 10 = p := ⟨_, rfl⟩
  rw [hp] at lP o1 EP EM CE CK
  have EZ := Lib.hid hp
  clear hp
  go_enter Tryz.func7, Tryz.ntmps7
  go_wp2_with fail
  refine (CE.out _).mono ?_
  rintro e w1 ⟨rfl, hc⟩
  have HA1 := Lib.hid hc
  have R0 := Lib.hid (Ro.new w1 29 (pmV zeroPm none 0 0))
  clear hc CE
  go_wp2_with (refine wpList_store_ro rfl (.tmp 7) (.tmp 18) rfl rfl rfl rowPm R0.out l0.out lP.out o1.out ?_)
  intro w2 R2 g2
  have HA2 := Lib.hid (HA1.out.trans ((box_store g2).mono HA1.out.size))
  have HR2 := Lib.hid R2
  have hb7 := Lib.hid HA1.out.size
  clear g2 R2 R0 HA1 z0
  generalize w1.heap.size = b7 at HR2 hb7 ⊢
  go_wp2_with (refine wpList_load_ro rfl (.tmp 7) rfl rfl rowPm HR2.out lP.out ?_)
  refine (chain_any w2 (EP.out w2) (by omega) (HL.out.later HA2.out)).mono ?_
  rintro e w3 ⟨C, m, f, rfl, O, hm1, hm2⟩
  obtain ⟨l, hl⟩ : ∃ l, chainS p L = l := ⟨_, rfl⟩
  rw [hl] at O CK
  have HA3 := Lib.hid (HA2.out.trans (O.bel.mono HA2.out.size))
  have HR3 := Lib.hid (HR2.out.later O.bel)
  have hcap := O.cap
  have HC := Lib.hid O.reads
  have HCB := Lib.hid (O.apart (b := b7) HR2.out.lt)
  have lm := Lib.hid O.len
  clear O HA2 HR2 hl
  by_cases h2 : m < 2
  · have q2 : decide ((m : Int) < 2) = true := decide_eq_true (by omega)
    go_wp2_with fail
    refine (FIN.out _ HA3.out).mono ?_
    rintro e w4 ⟨rfl, hb⟩
    have HB := Lib.hid hb
    go_wp2_with fail
    go_ret
    exact ⟨rfl, HB.out⟩
  have q2 : decide ((m : Int) < 2) = false := decide_eq_false (by omega)
  obtain ⟨r, hr⟩ : ∃ r, hh % (m - 1) = r := ⟨_, rfl⟩
  have hr1 : r < m - 1 := by rw [← hr]; exact Nat.mod_lt _ (by omega)
  have yr : (hh : Int) % ((m : Int) - 1) = (r : Int) := by
    rw [show (m : Int) - 1 = ((m - 1 : Nat) : Int) by omega, ← hr]
    rfl
  clear hr
  have qz : ((m : Int) - 1 == 0) = false := by simp; omega
  have eK : Hid (1 ≤ (1 + (r : Int))) := Lib.hid (by omega)
  have hk1 : 1 + r < m := by omega
  have hm3 : m ≤ 21 := by omega
  clear qz
  obtain ⟨q9, hq9⟩ : ∃ q9, h9 = q9 := ⟨_, rfl⟩
  have BH : ∀ w, (Instr.build 25 #[(0, .int .u8 9)]).run Tryz.prog w = .ok (.agg (vals q9).toArray) w := by subst hq9; exact fun w => (by kernel_rfl)
  have BP : ∀ w, (Instr.build 63 #[(0, .int .i64 (1 + (r : Int))), (1, .agg (vals q9).toArray)]).run Tryz.prog w = .ok (.agg (ptV (1 + (r : Int), q9)).toArray) w := by subst hq9; exact fun w => build_pt9 _ w
  have okp : Hid (PtOk (1 + (r : Int), q9)) := Lib.hid ⟨by simp only; omega, by simp only; omega, by rw [← hq9]; exact h9_ok.1, by rw [← hq9]; exact h9_ok.2⟩
  have lV9 : Hid ((ptV (1 + (r : Int), q9)).length = 33) := Lib.hid (ptV_len okp.out)
  have zp := zeroPt
  have HBH := Lib.hid BH
  have HBP := Lib.hid BP
  have hne0 : Hid (w3.heap.size ≠ b7) := Lib.hid (by have := HR3.out.lt; omega)
  clear hq9 BH BP
  have ARM : True := trivial
  cases rt with
  | false =>
    go_wp2_with (first | (refine wpList_buildR rfl 25 #[(0, .const (.int .u8 9))] rfl (vs := #[(0, .int .u8 9)]) ?e1 (HBH.out _) ?_) | (refine wpList_buildR rfl 63 #[(0, .tmp 33), (1, .tmp 34)] rfl (vs := #[(0, .int .i64 (1 + (r : Int))), (1, .agg (vals q9).toArray)]) ?e2 (HBP.out _) ?_) | (refine wpList_store_ro rfl (.tmp 10) (.tmp 35) rfl rfl rfl rowPt (Ro.new w3 63 (ptV zeroP)) rfl lV9.out (ptV_one _) ?_))
    case e1 => simp [go_sem]
    intro w4 R4 g4
    have b4 := Lib.hid (box_store g4)
    have RB := Lib.hid R4
    have RP := Lib.hid (HR3.out.later b4.out)
    have HA4 := Lib.hid (HA3.out.trans (b4.out.mono HA3.out.size))
    have HC0 := Lib.hid (HC.out.later b4.out)
    have hne := hne0
    clear R4 g4 zp HBH HBP HR3 HA3 HC
    generalize w3.heap.size = b10 at RB hne ⊢
    have n5 := (Below.refl w4.heap.size w4).alloc (Nat.le_refl _) (.cells (ptV (1 + (r : Int), q9)).toArray 63)
    have R10 := Lib.hid (RB.out.later n5)
    have RS := Ro.new w4 63 (ptV (1 + (r : Int), q9))
    have R7 := Lib.hid (RP.out.later n5)
    have c3 := R7.out.cell (k := 3) (v := .slice none 0 0) rfl
    have f3 := R7.out.free 3
    have R7b := R7.out.set 3 (.slice (some ⟨w4.heap.size, 0, none⟩) 1 1)
    rw [pmV_pts p [(1 + (r : Int), q9)] none (some ⟨w4.heap.size, 0, none⟩) 0 0 1 1] at R7b
    have ne1 : b10 ≠ b7 := hne.out
    have ne2 : w4.heap.size ≠ b7 := by have := RP.out.lt; omega
    have R10b := Lib.hid (R10.out.other (c := b7) (k := 3) ne1 (.slice (some ⟨w4.heap.size, 0, none⟩) 1 1))
    have RSb := Lib.hid (RS.other (c := b7) (k := 3) ne2 (.slice (some ⟨w4.heap.size, 0, none⟩) 1 1))
    have HA5 := Lib.hid ((HA4.out.trans (n5.mono HA4.out.size)).setCell (p := ⟨b7, 3, none⟩) hb7.out (.slice (some ⟨w4.heap.size, 0, none⟩) 1 1))
    have HC5 := Lib.hid (Hs.put (b := b7) (k := 3) (v := .slice (some ⟨w4.heap.size, 0, none⟩) 1 1) (HC0.out.later n5) HCB.out)
    have lV : Hid ((ptV (1 + (r : Int), q9)).length = 33) := Lib.hid (ptV_len okp.out)
    have PM : PmB (((w4.alloc (.cells (ptV (1 + (r : Int), q9)).toArray 63))).setCell ⟨b7, 3, none⟩ (.slice (some ⟨w4.heap.size, 0, none⟩) 1 1)) b7 { p with pts := [(1 + (r : Int), q9)] } (some ⟨w4.heap.size, 0, none⟩) 1 1 := ⟨R7b, ⟨⟨(EP.out w).ok.limit, (EP.out w).ok.iv, (EP.out w).ok.sp, fun y hy => (by rw [List.mem_singleton] at hy; subst hy; exact ⟨⟨okp.out.lo, okp.out.hi⟩, okp.out.len, okp.out.byt⟩), (EP.out w).ok.first⟩, ps_one RSb.out okp.out, by omega, Nat.le_refl _⟩⟩
    have HPM := Lib.hid PM
    clear n5 RS R7b ne1 ne2 R10 RSb PM
    go_wp2_with (first | (refine wpList_load_ro rfl (.tmp 10) rfl rfl rowPt RB.out lV.out ?_) | (refine wpList_litP rfl (.tmp 43) rfl rfl lV.out ?_))
    generalize ((w4.alloc (.cells (ptV (1 + (r : Int), q9)).toArray 63))).setCell ⟨b7, 3, none⟩ (.slice (some ⟨w4.heap.size, 0, none⟩) 1 1) = w9 at HPM R10b HA5 HC5 ⊢
    clear c3 f3
    generalize w4.heap.size = sS at HPM ⊢
    obtain ⟨cb, co, rfl, _, _⟩ := HC5.out.cel (by omega)
    have ad := add_at cb co
    have lPm : Hid ((pmV { p with pts := [(1 + (r : Int), q9)] } (some ⟨sS, 0, none⟩) 1 1).length = 72) := Lib.hid (pmV_len (EP.out w).ok.first _ _ _)
    have EM2 : Hid (mayS { p with pts := [(1 + (r : Int), q9)] } = true) := Lib.hid (may_pt EM.out eK.out)
    go_loopw [11] (fun i wr => ∃ j : Nat, 1 ≤ j ∧ j ≤ m ∧ i = .int .i64 (j : Nat) ∧ Below w9.heap.size w9 wr) (fun i _ => m - (intOf i).toNat)
    case atStart => exact ⟨1, by omega, by omega, rfl, Below.refl _ _⟩
    case round =>
      obtain ⟨j, hj1, hj, rfl, bel⟩ := hrel
      have HB := Lib.hid bel
      have HAr := Lib.hid (HA5.out.trans (bel.mono HA5.out.size))
      clear bel
      by_cases hlt : j < m
      · have PB := Lib.hid (HPM.out.later HB.out)
        have okg := Lib.hid (nthH_ok HC5.out.ok j)
        have hat := (HC5.out.later HB.out).at_ hlt
        have RG := Lib.hid hat.2
        have hbk := Lib.hid hat.1
        have GD := Lib.hid (good_pts EM.out EM2.out (CK.out.good j hj1 (by rw [lm.out]; exact hlt)))
        have ltk : Hid ((l.take j).length = j) := Lib.hid (by rw [List.length_take, lm.out]; omega)
        have eR := Lib.hid (right_good EM2.out (by rw [ltk.out]; omega) GD.out)
        rw [ltk.out] at eR
        have CR : Hid (∀ u : After wr, Calls Tryz.prog 16 #[.agg (pmV { p with pts := [(1 + (r : Int), q9)] } (some ⟨sS, 0, none⟩) 1 1).toArray, .slice (some ⟨cb, co, none⟩) j f, .agg (hdV (nthH l j)).toArray] u.w fun e w' => e = .returned (.int .i64 ((if ptBad [(1 + (r : Int), q9)] j (idS (nthH l j)) = true then 13 else 0 : Nat) : Int)) ∧ Below u.w.heap.size u.w w') := Lib.hid (fun u => by
          rw [← eR.out]
          exact right_chain u.w (HD.out.later HD.out.lt (HAr.out.trans (u.below.mono HAr.out.size))) (HPM.out.later (HB.out.trans (u.below.mono HB.out.size))).r (by omega) (by omega) ((HC5.out.later (HB.out.trans (u.below.mono HB.out.size))).left (by omega)) okg.out)
        have eQ : Hid (ptBad [(1 + (r : Int), q9)] j (idS (nthH l j)) = decide ((1 + (r : Int)) = (j : Int) ∧ q9 ≠ idS (nthH l j))) := Lib.hid (by simp [ptBad])
        rw [eQ.out] at CR
        obtain ⟨g, hg⟩ : ∃ g, nthH l j = g := ⟨_, rfl⟩
        rw [hg] at okg RG CR
        have lg := Lib.hid (hdV_len okg.out)
        have HG := Lib.hid hg
        clear hat GD eR eQ hg ltk
        by_cases ejk : j = 1 + r
        · have qe : ((j : Int) == 1 + (r : Int)) = true := by simp; omega
          have HJ := Lib.hid ejk
          clear ejk
          by_cases eH : q9 = idS g
          · have CRn := CR
            rw [decide_eq_false (fun q => q.2 eH)] at CRn
            clear CR
            have CR : Hid (∀ u : After wr, Calls Tryz.prog 16 #[.agg (pmV { p with pts := [(1 + (r : Int), q9)] } (some ⟨sS, 0, none⟩) 1 1).toArray, .slice (some ⟨cb, co, none⟩) j f, .agg (hdV g).toArray] u.w fun e w' => e = .returned (.int .i64 0) ∧ Below u.w.heap.size u.w w') := CRn
            have EQ := eqV okp.out.len (idS_len g)
            rw [eqB_yes eH] at EQ
            obtain ⟨I, hI⟩ : ∃ I, idS g = I := ⟨_, rfl⟩
            have HI := Lib.hid hI
            rw [hI] at EQ
            clear CRn eH hI
            go_wp2_with fail
            refine wp_region_after (by kernel_rfl) (by kernel_rfl) ?_
            go_big_quiet_want
            refine quiet_load_part (.tmp 7) rfl rfl rowPm (fun w9 h9 => by obtain ⟨u, rfl⟩ := h9; exact rangeOf (PB.out.ro.later u.below)) lPm.out ?_
            simp only [Act.put, List.setIfInBounds_toArray, List.set_cons_succ, List.set_cons_zero]
            go_big_quiet_on
            repeat (go_big_quiet_step (fail))
            go_big_quiet_want
            refine quiet_load_part (.tmp 58) rfl rfl rowHd (fun w9 h9 => by obtain ⟨u, rfl⟩ := h9; exact range_later RG.out hbk.out u.below) lg.out ?_
            simp only [Act.put, List.setIfInBounds_toArray, List.set_cons_succ, List.set_cons_zero]
            go_big_quiet_on
            repeat (go_big_quiet_step ((go_at_call 16; exact after_call (CR.out _))))
            refine wpQuiet_nil ?_
            rintro _ ⟨u, rfl⟩
            have B2 := Lib.hid (HB.out.trans (u.below.mono HB.out.size))
            generalize u.w = wx at B2 ⊢
            clear CR RG PB hbk
            have RH := Lib.hid (range_later (pt_hash (rangeOf R10b.out)) R10b.out.lt B2.out)
            have lb10 : Hid (b10 < wx.heap.size) := Lib.hid (Nat.lt_of_lt_of_le R10b.out.lt B2.out.size)
            have lH : Hid ((vals q9).length = 32) := Lib.hid (by rw [vals_length]; exact okp.out.len)
            have hat2 := (HC5.out.later B2.out).at_ hlt
            rw [HG.out, HJ.out] at hat2
            have RG2 := Lib.hid hat2.2
            have hbk2 := Lib.hid hat2.1
            have CI : Hid (∀ u : After wx, Calls Tryz.prog 22 #[.agg (hdV g).toArray] u.w fun e w' => e = .returned (.agg (vals I).toArray) ∧ Below u.w.heap.size u.w w') := Lib.hid (fun u => by rw [← HI.out]; exact refId_any okg.out u.w)
            clear hat2
            go_wp2_with fail
            refine wp_region_after (by kernel_rfl) (by kernel_rfl) ?_
            repeat (go_big_quiet_step (fail))
            go_big_quiet_want
            refine quiet_load_part (.tmp 65) rfl rfl row26 (fun w9 h9 => by obtain ⟨u, rfl⟩ := h9; exact range_later RH.out lb10.out u.below) lH.out ?_
            simp only [Act.put, List.setIfInBounds_toArray, List.set_cons_succ, List.set_cons_zero]
            go_big_quiet_on
            repeat (go_big_quiet_step (fail))
            go_big_quiet_want
            refine quiet_load_part (.tmp 69) rfl rfl rowHd (fun w9 h9 => by obtain ⟨u, rfl⟩ := h9; exact range_later RG2.out hbk2.out u.below) lg.out ?_
            simp only [Act.put, List.setIfInBounds_toArray, List.set_cons_succ, List.set_cons_zero]
            go_big_quiet_on
            repeat (go_big_quiet_step ((go_at_call 22; exact after_call (CI.out _))))
            refine wpQuiet_nil ?_
            rintro _ ⟨u, rfl⟩
            have B3 := Lib.hid (B2.out.trans (u.below.mono B2.out.size))
            go_wp2_with fail
            exact ⟨⟨j + 1, by omega, by omega, by go_num, B3.out⟩, by simp [intOf]; omega⟩
          · have CRn := CR
            rw [decide_eq_true ⟨by have := HJ.out; omega, eH⟩] at CRn
            clear CR
            have CR : Hid (∀ u : After wr, Calls Tryz.prog 16 #[.agg (pmV { p with pts := [(1 + (r : Int), q9)] } (some ⟨sS, 0, none⟩) 1 1).toArray, .slice (some ⟨cb, co, none⟩) j f, .agg (hdV g).toArray] u.w fun e w' => e = .returned (.int .i64 13) ∧ Below u.w.heap.size u.w w') := CRn
            have EQ := eqV okp.out.len (idS_len g)
            rw [eqB_no eH] at EQ
            obtain ⟨I, hI⟩ : ∃ I, idS g = I := ⟨_, rfl⟩
            have HI := Lib.hid hI
            rw [hI] at EQ
            clear CRn eH hI
            go_wp2_with fail
            refine wp_region_after (by kernel_rfl) (by kernel_rfl) ?_
            go_big_quiet_want
            refine quiet_load_part (.tmp 7) rfl rfl rowPm (fun w9 h9 => by obtain ⟨u, rfl⟩ := h9; exact rangeOf (PB.out.ro.later u.below)) lPm.out ?_
            simp only [Act.put, List.setIfInBounds_toArray, List.set_cons_succ, List.set_cons_zero]
            go_big_quiet_on
            repeat (go_big_quiet_step (fail))
            go_big_quiet_want
            refine quiet_load_part (.tmp 58) rfl rfl rowHd (fun w9 h9 => by obtain ⟨u, rfl⟩ := h9; exact range_later RG.out hbk.out u.below) lg.out ?_
            simp only [Act.put, List.setIfInBounds_toArray, List.set_cons_succ, List.set_cons_zero]
            go_big_quiet_on
            repeat (go_big_quiet_step ((go_at_call 16; exact after_call (CR.out _))))
            refine wpQuiet_nil ?_
            rintro _ ⟨u, rfl⟩
            have B2 := Lib.hid (HB.out.trans (u.below.mono HB.out.size))
            generalize u.w = wx at B2 ⊢
            clear CR RG PB hbk
            have RH := Lib.hid (range_later (pt_hash (rangeOf R10b.out)) R10b.out.lt B2.out)
            have lb10 : Hid (b10 < wx.heap.size) := Lib.hid (Nat.lt_of_lt_of_le R10b.out.lt B2.out.size)
            have lH : Hid ((vals q9).length = 32) := Lib.hid (by rw [vals_length]; exact okp.out.len)
            have hat2 := (HC5.out.later B2.out).at_ hlt
            rw [HG.out, HJ.out] at hat2
            have RG2 := Lib.hid hat2.2
            have hbk2 := Lib.hid hat2.1
            have CI : Hid (∀ u : After wx, Calls Tryz.prog 22 #[.agg (hdV g).toArray] u.w fun e w' => e = .returned (.agg (vals I).toArray) ∧ Below u.w.heap.size u.w w') := Lib.hid (fun u => by rw [← HI.out]; exact refId_any okg.out u.w)
            clear hat2
            go_wp2_with fail
            refine wp_region_after (by kernel_rfl) (by kernel_rfl) ?_
            repeat (go_big_quiet_step (fail))
            go_big_quiet_want
            refine quiet_load_part (.tmp 65) rfl rfl row26 (fun w9 h9 => by obtain ⟨u, rfl⟩ := h9; exact range_later RH.out lb10.out u.below) lH.out ?_
            simp only [Act.put, List.setIfInBounds_toArray, List.set_cons_succ, List.set_cons_zero]
            go_big_quiet_on
            repeat (go_big_quiet_step (fail))
            go_big_quiet_want
            refine quiet_load_part (.tmp 69) rfl rfl rowHd (fun w9 h9 => by obtain ⟨u, rfl⟩ := h9; exact range_later RG2.out hbk2.out u.below) lg.out ?_
            simp only [Act.put, List.setIfInBounds_toArray, List.set_cons_succ, List.set_cons_zero]
            go_big_quiet_on
            repeat (go_big_quiet_step ((go_at_call 22; exact after_call (CI.out _))))
            refine wpQuiet_nil ?_
            rintro _ ⟨u, rfl⟩
            have B3 := Lib.hid (B2.out.trans (u.below.mono B2.out.size))
            go_wp2_with fail
            exact ⟨⟨j + 1, by omega, by omega, by go_num, B3.out⟩, by simp [intOf]; omega⟩
        · have qe : ((j : Int) == 1 + (r : Int)) = false := by simp; omega
          rw [decide_eq_false (fun q => ejk (by omega))] at CR
          have CRn := CR
          clear CR
          have CR : Hid (∀ u : After wr, Calls Tryz.prog 16 #[.agg (pmV { p with pts := [(1 + (r : Int), q9)] } (some ⟨sS, 0, none⟩) 1 1).toArray, .slice (some ⟨cb, co, none⟩) j f, .agg (hdV g).toArray] u.w fun e w' => e = .returned (.int .i64 0) ∧ Below u.w.heap.size u.w w') := CRn
          clear CRn
          go_wp2_with fail
          refine wp_region_after (by kernel_rfl) (by kernel_rfl) ?_
          go_big_quiet_want
          refine quiet_load_part (.tmp 7) rfl rfl rowPm (fun w9 h9 => by obtain ⟨u, rfl⟩ := h9; exact rangeOf (PB.out.ro.later u.below)) lPm.out ?_
          simp only [Act.put, List.setIfInBounds_toArray, List.set_cons_succ, List.set_cons_zero]
          go_big_quiet_on
          repeat (go_big_quiet_step (fail))
          go_big_quiet_want
          refine quiet_load_part (.tmp 58) rfl rfl rowHd (fun w9 h9 => by obtain ⟨u, rfl⟩ := h9; exact range_later RG.out hbk.out u.below) lg.out ?_
          simp only [Act.put, List.setIfInBounds_toArray, List.set_cons_succ, List.set_cons_zero]
          go_big_quiet_on
          repeat (go_big_quiet_step ((go_at_call 16; exact after_call (CR.out _))))
          refine wpQuiet_nil ?_
          rintro _ ⟨u, rfl⟩
          have B2 := Lib.hid (HB.out.trans (u.below.mono HB.out.size))
          generalize u.w = wx at B2 ⊢
          clear CR RG PB hbk
          go_wp2_with fail
          refine wp_region_after (by kernel_rfl) (by kernel_rfl) ?_
          repeat (go_big_quiet_step (fail))
          refine wpQuiet_nil ?_
          rintro _ ⟨u, rfl⟩
          have B3 := Lib.hid (B2.out.trans (u.below.mono B2.out.size))
          go_wp2_with fail
          exact ⟨⟨j + 1, by omega, by omega, by go_num, B3.out⟩, by simp [intOf]; omega⟩
      · obtain rfl : j = m := by omega
        go_wp2_with fail
        refine (FIN.out _ HAr.out).mono ?_
        rintro e w4 ⟨rfl, hb⟩
        have HBf := Lib.hid hb
        go_wp2_with fail
        go_ret
        exact ⟨rfl, HBf.out⟩
  | true =>
    go_wp2_with (first | (refine wpList_buildR rfl 25 #[(0, .const (.int .u8 9))] rfl (vs := #[(0, .int .u8 9)]) ?e3 (HBH.out _) ?_) | (refine wpList_buildR rfl 63 #[(0, .tmp 33), (1, .tmp 34)] rfl (vs := #[(0, .int .i64 (1 + (r : Int))), (1, .agg (vals q9).toArray)]) ?e4 (HBP.out _) ?_) | (refine wpList_store_ro rfl (.tmp 10) (.tmp 35) rfl rfl rfl rowPt (Ro.new w3 63 (ptV zeroP)) rfl lV9.out (ptV_one _) ?_))
    case e3 => simp [go_sem]
    intro w4 R4 g4
    have b4 := Lib.hid (box_store g4)
    have RB0 := Lib.hid R4
    have RP0 := Lib.hid (HR3.out.later b4.out)
    have HA40 := Lib.hid (HA3.out.trans (b4.out.mono HA3.out.size))
    have HC00 := Lib.hid (HC.out.later b4.out)
    have hne := hne0
    have okp9 := okp
    have HCl := HC
    have HAl := HA3
    clear R4 g4 zp HBH HBP HR3 HA3 HC okp
    have hcl : ∀ a, C = some a → a.block ≠ w3.heap.size := by
      intro a e
      obtain ⟨q, o, e2, h1, _⟩ := HCl.out.cel (by omega)
      rw [e2] at e
      injection e with e
      subst e
      exact Nat.ne_of_lt h1
    have HCN := Lib.hid hcl
    have hb10 : Hid (w.heap.size ≤ w3.heap.size) := Lib.hid HAl.out.size
    clear hcl HCl HAl
    generalize w3.heap.size = b10 at RB0 hne HCN hb10 ⊢
    obtain ⟨cb, co, rfl, _, _⟩ := HC00.out.cel (by omega)
    have ad := add_at cb co
    have hat := HC00.out.at_ hk1
    have RG := Lib.hid hat.2
    have hbk := Lib.hid hat.1
    have okg := Lib.hid (nthH_ok HC00.out.ok (1 + r))
    have lg := Lib.hid (hdV_len okg.out)
    obtain ⟨g, hg⟩ : ∃ g, nthH l (1 + r) = g := ⟨_, rfl⟩
    rw [hg] at RG okg lg
    clear hat
    go_wp2_with (refine wpList_load_part rfl (.tmp 39) rfl rfl rowHd RG.out lg.out ?_)
    refine (refId_any okg.out _).mono ?_
    rintro e w5 ⟨rfl, hbl⟩
    have b5 := Lib.hid hbl
    clear hbl
    obtain ⟨I0, hI0⟩ : ∃ I0, idS g = I0 := ⟨_, rfl⟩
    have lI0 : Hid (I0.length = 32) := Lib.hid (by rw [← hI0]; exact idS_len g)
    have aI0 : Hid (AllB I0) := Lib.hid (by rw [← hI0]; exact idS_byt g)
    rw [hI0]
    have RB5 := Lib.hid (RB0.out.later b5.out)
    have lv0 : Hid ((vals I0).length = 32) := Lib.hid (by rw [vals_length]; exact lI0.out)
    clear hI0
    go_wp2_with (refine wpList_store_part rfl (.tmp 42) (.tmp 41) rfl rfl rfl row26 RB5.out (by rw [lV9.out]; decide) lv0.out (vals_one _) ?_)
    intro w6 R6 g6
    rw [splice_pt okp9.out.len lI0.out] at R6
    have b6 := Lib.hid g6
    have RB := Lib.hid R6
    have RP := Lib.hid ((RP0.out.later b5.out).far g6 (fun e => by injection e with e; exact hne.out e.symm))
    have HA4 := Lib.hid ((HA40.out.trans (b5.out.mono HA40.out.size)).grown g6 (HA40.out.trans (b5.out.mono HA40.out.size)).size (fun q e => by injection e with e; subst e; exact hb10.out))
    have HC0 := Lib.hid ((HC00.out.later b5.out).far g6 HCN.out)
    have okp : Hid (PtOk (1 + (r : Int), I0)) := Lib.hid ⟨okp9.out.lo, okp9.out.hi, lI0.out, aI0.out⟩
    clear R6 g6 b6 RB0 RP0 HA40 HC00 b5 RB5 lv0 RG hbk okg lg
    have n5 := (Below.refl w6.heap.size w6).alloc (Nat.le_refl _) (.cells (ptV (1 + (r : Int), I0)).toArray 63)
    have R10 := Lib.hid (RB.out.later n5)
    have RS := Ro.new w6 63 (ptV (1 + (r : Int), I0))
    have R7 := Lib.hid (RP.out.later n5)
    have c3 := R7.out.cell (k := 3) (v := .slice none 0 0) rfl
    have f3 := R7.out.free 3
    have R7b := R7.out.set 3 (.slice (some ⟨w6.heap.size, 0, none⟩) 1 1)
    rw [pmV_pts p [(1 + (r : Int), I0)] none (some ⟨w6.heap.size, 0, none⟩) 0 0 1 1] at R7b
    have ne1 : b10 ≠ b7 := hne.out
    have ne2 : w6.heap.size ≠ b7 := by have := RP.out.lt; omega
    have R10b := Lib.hid (R10.out.other (c := b7) (k := 3) ne1 (.slice (some ⟨w6.heap.size, 0, none⟩) 1 1))
    have RSb := Lib.hid (RS.other (c := b7) (k := 3) ne2 (.slice (some ⟨w6.heap.size, 0, none⟩) 1 1))
    have HA5 := Lib.hid ((HA4.out.trans (n5.mono HA4.out.size)).setCell (p := ⟨b7, 3, none⟩) hb7.out (.slice (some ⟨w6.heap.size, 0, none⟩) 1 1))
    have HC5 := Lib.hid (Hs.put (b := b7) (k := 3) (v := .slice (some ⟨w6.heap.size, 0, none⟩) 1 1) (HC0.out.later n5) HCB.out)
    have lV : Hid ((ptV (1 + (r : Int), I0)).length = 33) := Lib.hid (ptV_len okp.out)
    have PM : PmB (((w6.alloc (.cells (ptV (1 + (r : Int), I0)).toArray 63))).setCell ⟨b7, 3, none⟩ (.slice (some ⟨w6.heap.size, 0, none⟩) 1 1)) b7 { p with pts := [(1 + (r : Int), I0)] } (some ⟨w6.heap.size, 0, none⟩) 1 1 := ⟨R7b, ⟨⟨(EP.out w).ok.limit, (EP.out w).ok.iv, (EP.out w).ok.sp, fun y hy => (by rw [List.mem_singleton] at hy; subst hy; exact ⟨⟨okp.out.lo, okp.out.hi⟩, okp.out.len, okp.out.byt⟩), (EP.out w).ok.first⟩, ps_one RSb.out okp.out, by omega, Nat.le_refl _⟩⟩
    have HPM := Lib.hid PM
    clear n5 RS R7b ne1 ne2 R10 RSb PM
    go_wp2_with (first | (refine wpList_load_ro rfl (.tmp 10) rfl rfl rowPt RB.out lV.out ?_) | (refine wpList_litP rfl (.tmp 43) rfl rfl lV.out ?_))
    generalize ((w6.alloc (.cells (ptV (1 + (r : Int), I0)).toArray 63))).setCell ⟨b7, 3, none⟩ (.slice (some ⟨w6.heap.size, 0, none⟩) 1 1) = w9 at HPM R10b HA5 HC5 ⊢
    clear c3 f3
    generalize w6.heap.size = sS at HPM ⊢
    have lPm : Hid ((pmV { p with pts := [(1 + (r : Int), I0)] } (some ⟨sS, 0, none⟩) 1 1).length = 72) := Lib.hid (pmV_len (EP.out w).ok.first _ _ _)
    have EM2 : Hid (mayS { p with pts := [(1 + (r : Int), I0)] } = true) := Lib.hid (may_pt EM.out eK.out)
    go_loopw [11] (fun i wr => ∃ j : Nat, 1 ≤ j ∧ j ≤ m ∧ i = .int .i64 (j : Nat) ∧ Below w9.heap.size w9 wr) (fun i _ => m - (intOf i).toNat)
    case atStart => exact ⟨1, by omega, by omega, rfl, Below.refl _ _⟩
    case round =>
      obtain ⟨j, hj1, hj, rfl, bel⟩ := hrel
      have HB := Lib.hid bel
      have HAr := Lib.hid (HA5.out.trans (bel.mono HA5.out.size))
      clear bel
      by_cases hlt : j < m
      · have PB := Lib.hid (HPM.out.later HB.out)
        have okg := Lib.hid (nthH_ok HC5.out.ok j)
        have hat := (HC5.out.later HB.out).at_ hlt
        have RG := Lib.hid hat.2
        have hbk := Lib.hid hat.1
        have GD := Lib.hid (good_pts EM.out EM2.out (CK.out.good j hj1 (by rw [lm.out]; exact hlt)))
        have ltk : Hid ((l.take j).length = j) := Lib.hid (by rw [List.length_take, lm.out]; omega)
        have eR := Lib.hid (right_good EM2.out (by rw [ltk.out]; omega) GD.out)
        rw [ltk.out] at eR
        have CR : Hid (∀ u : After wr, Calls Tryz.prog 16 #[.agg (pmV { p with pts := [(1 + (r : Int), I0)] } (some ⟨sS, 0, none⟩) 1 1).toArray, .slice (some ⟨cb, co, none⟩) j f, .agg (hdV (nthH l j)).toArray] u.w fun e w' => e = .returned (.int .i64 ((if ptBad [(1 + (r : Int), I0)] j (idS (nthH l j)) = true then 13 else 0 : Nat) : Int)) ∧ Below u.w.heap.size u.w w') := Lib.hid (fun u => by
          rw [← eR.out]
          exact right_chain u.w (HD.out.later HD.out.lt (HAr.out.trans (u.below.mono HAr.out.size))) (HPM.out.later (HB.out.trans (u.below.mono HB.out.size))).r (by omega) (by omega) ((HC5.out.later (HB.out.trans (u.below.mono HB.out.size))).left (by omega)) okg.out)
        have eQ : Hid (ptBad [(1 + (r : Int), I0)] j (idS (nthH l j)) = decide ((1 + (r : Int)) = (j : Int) ∧ I0 ≠ idS (nthH l j))) := Lib.hid (by simp [ptBad])
        rw [eQ.out] at CR
        obtain ⟨g, hg⟩ : ∃ g, nthH l j = g := ⟨_, rfl⟩
        rw [hg] at okg RG CR
        have lg := Lib.hid (hdV_len okg.out)
        have HG := Lib.hid hg
        clear hat GD eR eQ hg ltk
        by_cases ejk : j = 1 + r
        · have qe : ((j : Int) == 1 + (r : Int)) = true := by simp; omega
          have HJ := Lib.hid ejk
          clear ejk
          by_cases eH : I0 = idS g
          · have CRn := CR
            rw [decide_eq_false (fun q => q.2 eH)] at CRn
            clear CR
            have CR : Hid (∀ u : After wr, Calls Tryz.prog 16 #[.agg (pmV { p with pts := [(1 + (r : Int), I0)] } (some ⟨sS, 0, none⟩) 1 1).toArray, .slice (some ⟨cb, co, none⟩) j f, .agg (hdV g).toArray] u.w fun e w' => e = .returned (.int .i64 0) ∧ Below u.w.heap.size u.w w') := CRn
            have EQ := eqV okp.out.len (idS_len g)
            rw [eqB_yes eH] at EQ
            obtain ⟨I, hI⟩ : ∃ I, idS g = I := ⟨_, rfl⟩
            have HI := Lib.hid hI
            rw [hI] at EQ
            clear CRn eH hI
            go_wp2_with fail
            refine wp_region_after (by kernel_rfl) (by kernel_rfl) ?_
            go_big_quiet_want
            refine quiet_load_part (.tmp 7) rfl rfl rowPm (fun w9 h9 => by obtain ⟨u, rfl⟩ := h9; exact rangeOf (PB.out.ro.later u.below)) lPm.out ?_
            simp only [Act.put, List.setIfInBounds_toArray, List.set_cons_succ, List.set_cons_zero]
            go_big_quiet_on
            repeat (go_big_quiet_step (fail))
            go_big_quiet_want
            refine quiet_load_part (.tmp 58) rfl rfl rowHd (fun w9 h9 => by obtain ⟨u, rfl⟩ := h9; exact range_later RG.out hbk.out u.below) lg.out ?_
            simp only [Act.put, List.setIfInBounds_toArray, List.set_cons_succ, List.set_cons_zero]
            go_big_quiet_on
            repeat (go_big_quiet_step ((go_at_call 16; exact after_call (CR.out _))))
            refine wpQuiet_nil ?_
            rintro _ ⟨u, rfl⟩
            have B2 := Lib.hid (HB.out.trans (u.below.mono HB.out.size))
            generalize u.w = wx at B2 ⊢
            clear CR RG PB hbk
            have RH := Lib.hid (range_later (pt_hash (rangeOf R10b.out)) R10b.out.lt B2.out)
            have lb10 : Hid (b10 < wx.heap.size) := Lib.hid (Nat.lt_of_lt_of_le R10b.out.lt B2.out.size)
            have lH : Hid ((vals I0).length = 32) := Lib.hid (by rw [vals_length]; exact okp.out.len)
            have hat2 := (HC5.out.later B2.out).at_ hlt
            rw [HG.out, HJ.out] at hat2
            have RG2 := Lib.hid hat2.2
            have hbk2 := Lib.hid hat2.1
            have CI : Hid (∀ u : After wx, Calls Tryz.prog 22 #[.agg (hdV g).toArray] u.w fun e w' => e = .returned (.agg (vals I).toArray) ∧ Below u.w.heap.size u.w w') := Lib.hid (fun u => by rw [← HI.out]; exact refId_any okg.out u.w)
            clear hat2
            go_wp2_with fail
            refine wp_region_after (by kernel_rfl) (by kernel_rfl) ?_
            repeat (go_big_quiet_step (fail))
            go_big_quiet_want
            refine quiet_load_part (.tmp 65) rfl rfl row26 (fun w9 h9 => by obtain ⟨u, rfl⟩ := h9; exact range_later RH.out lb10.out u.below) lH.out ?_
            simp only [Act.put, List.setIfInBounds_toArray, List.set_cons_succ, List.set_cons_zero]
            go_big_quiet_on
            repeat (go_big_quiet_step (fail))
            go_big_quiet_want
            refine quiet_load_part (.tmp 69) rfl rfl rowHd (fun w9 h9 => by obtain ⟨u, rfl⟩ := h9; exact range_later RG2.out hbk2.out u.below) lg.out ?_
            simp only [Act.put, List.setIfInBounds_toArray, List.set_cons_succ, List.set_cons_zero]
            go_big_quiet_on
            repeat (go_big_quiet_step ((go_at_call 22; exact after_call (CI.out _))))
            refine wpQuiet_nil ?_
            rintro _ ⟨u, rfl⟩
            have B3 := Lib.hid (B2.out.trans (u.below.mono B2.out.size))
            go_wp2_with fail
            exact ⟨⟨j + 1, by omega, by omega, by go_num, B3.out⟩, by simp [intOf]; omega⟩
          · have CRn := CR
            rw [decide_eq_true ⟨by have := HJ.out; omega, eH⟩] at CRn
            clear CR
            have CR : Hid (∀ u : After wr, Calls Tryz.prog 16 #[.agg (pmV { p with pts := [(1 + (r : Int), I0)] } (some ⟨sS, 0, none⟩) 1 1).toArray, .slice (some ⟨cb, co, none⟩) j f, .agg (hdV g).toArray] u.w fun e w' => e = .returned (.int .i64 13) ∧ Below u.w.heap.size u.w w') := CRn
            have EQ := eqV okp.out.len (idS_len g)
            rw [eqB_no eH] at EQ
            obtain ⟨I, hI⟩ : ∃ I, idS g = I := ⟨_, rfl⟩
            have HI := Lib.hid hI
            rw [hI] at EQ
            clear CRn eH hI
            go_wp2_with fail
            refine wp_region_after (by kernel_rfl) (by kernel_rfl) ?_
            go_big_quiet_want
            refine quiet_load_part (.tmp 7) rfl rfl rowPm (fun w9 h9 => by obtain ⟨u, rfl⟩ := h9; exact rangeOf (PB.out.ro.later u.below)) lPm.out ?_
            simp only [Act.put, List.setIfInBounds_toArray, List.set_cons_succ, List.set_cons_zero]
            go_big_quiet_on
            repeat (go_big_quiet_step (fail))
            go_big_quiet_want
            refine quiet_load_part (.tmp 58) rfl rfl rowHd (fun w9 h9 => by obtain ⟨u, rfl⟩ := h9; exact range_later RG.out hbk.out u.below) lg.out ?_
            simp only [Act.put, List.setIfInBounds_toArray, List.set_cons_succ, List.set_cons_zero]
            go_big_quiet_on
            repeat (go_big_quiet_step ((go_at_call 16; exact after_call (CR.out _))))
            refine wpQuiet_nil ?_
            rintro _ ⟨u, rfl⟩
            have B2 := Lib.hid (HB.out.trans (u.below.mono HB.out.size))
            generalize u.w = wx at B2 ⊢
            clear CR RG PB hbk
            have RH := Lib.hid (range_later (pt_hash (rangeOf R10b.out)) R10b.out.lt B2.out)
            have lb10 : Hid (b10 < wx.heap.size) := Lib.hid (Nat.lt_of_lt_of_le R10b.out.lt B2.out.size)
            have lH : Hid ((vals I0).length = 32) := Lib.hid (by rw [vals_length]; exact okp.out.len)
            have hat2 := (HC5.out.later B2.out).at_ hlt
            rw [HG.out, HJ.out] at hat2
            have RG2 := Lib.hid hat2.2
            have hbk2 := Lib.hid hat2.1
            have CI : Hid (∀ u : After wx, Calls Tryz.prog 22 #[.agg (hdV g).toArray] u.w fun e w' => e = .returned (.agg (vals I).toArray) ∧ Below u.w.heap.size u.w w') := Lib.hid (fun u => by rw [← HI.out]; exact refId_any okg.out u.w)
            clear hat2
            go_wp2_with fail
            refine wp_region_after (by kernel_rfl) (by kernel_rfl) ?_
            repeat (go_big_quiet_step (fail))
            go_big_quiet_want
            refine quiet_load_part (.tmp 65) rfl rfl row26 (fun w9 h9 => by obtain ⟨u, rfl⟩ := h9; exact range_later RH.out lb10.out u.below) lH.out ?_
            simp only [Act.put, List.setIfInBounds_toArray, List.set_cons_succ, List.set_cons_zero]
            go_big_quiet_on
            repeat (go_big_quiet_step (fail))
            go_big_quiet_want
            refine quiet_load_part (.tmp 69) rfl rfl rowHd (fun w9 h9 => by obtain ⟨u, rfl⟩ := h9; exact range_later RG2.out hbk2.out u.below) lg.out ?_
            simp only [Act.put, List.setIfInBounds_toArray, List.set_cons_succ, List.set_cons_zero]
            go_big_quiet_on
            repeat (go_big_quiet_step ((go_at_call 22; exact after_call (CI.out _))))
            refine wpQuiet_nil ?_
            rintro _ ⟨u, rfl⟩
            have B3 := Lib.hid (B2.out.trans (u.below.mono B2.out.size))
            go_wp2_with fail
            exact ⟨⟨j + 1, by omega, by omega, by go_num, B3.out⟩, by simp [intOf]; omega⟩
        · have qe : ((j : Int) == 1 + (r : Int)) = false := by simp; omega
          rw [decide_eq_false (fun q => ejk (by omega))] at CR
          have CRn := CR
          clear CR
          have CR : Hid (∀ u : After wr, Calls Tryz.prog 16 #[.agg (pmV { p with pts := [(1 + (r : Int), I0)] } (some ⟨sS, 0, none⟩) 1 1).toArray, .slice (some ⟨cb, co, none⟩) j f, .agg (hdV g).toArray] u.w fun e w' => e = .returned (.int .i64 0) ∧ Below u.w.heap.size u.w w') := CRn
          clear CRn
          go_wp2_with fail
          refine wp_region_after (by kernel_rfl) (by kernel_rfl) ?_
          go_big_quiet_want
          refine quiet_load_part (.tmp 7) rfl rfl rowPm (fun w9 h9 => by obtain ⟨u, rfl⟩ := h9; exact rangeOf (PB.out.ro.later u.below)) lPm.out ?_
          simp only [Act.put, List.setIfInBounds_toArray, List.set_cons_succ, List.set_cons_zero]
          go_big_quiet_on
          repeat (go_big_quiet_step (fail))
          go_big_quiet_want
          refine quiet_load_part (.tmp 58) rfl rfl rowHd (fun w9 h9 => by obtain ⟨u, rfl⟩ := h9; exact range_later RG.out hbk.out u.below) lg.out ?_
          simp only [Act.put, List.setIfInBounds_toArray, List.set_cons_succ, List.set_cons_zero]
          go_big_quiet_on
          repeat (go_big_quiet_step ((go_at_call 16; exact after_call (CR.out _))))
          refine wpQuiet_nil ?_
          rintro _ ⟨u, rfl⟩
          have B2 := Lib.hid (HB.out.trans (u.below.mono HB.out.size))
          generalize u.w = wx at B2 ⊢
          clear CR RG PB hbk
          go_wp2_with fail
          refine wp_region_after (by kernel_rfl) (by kernel_rfl) ?_
          repeat (go_big_quiet_step (fail))
          refine wpQuiet_nil ?_
          rintro _ ⟨u, rfl⟩
          have B3 := Lib.hid (B2.out.trans (u.below.mono B2.out.size))
          go_wp2_with fail
          exact ⟨⟨j + 1, by omega, by omega, by go_num, B3.out⟩, by simp [intOf]; omega⟩
      · obtain rfl : j = m := by omega
        go_wp2_with fail
        refine (FIN.out _ HAr.out).mono ?_
        rintro e w4 ⟨rfl, hb⟩
        have HBf := Lib.hid hb
        go_wp2_with fail
        go_ret
        exact ⟨rfl, HBf.out⟩

end Go.Proofs.YtimjmmiajgfblaaGreatDoor
