/- RulesChain walked: a chain that was made is right, header by header; with a bit turned a header is refused, or the one behind it. No condition but that the tables lie as laid. -/
import Derived.Test.YtimjmmiajgfblaaGreatDoorHbv
import Derived.Test.YtimjmmiajgfblaaGreatDoorGbu
import Derived.Test.YtimjmmiajgfblaaGreatDoorHbw

namespace Go.Proofs.YtimjmmiajgfblaaGreatDoor
open Go.RowKit

theorem hs_put {w : World} {A : Option Addr} {n b k : Nat} {l : List Hd} {v : Value} (h : Hs w A n l) (hb : ∀ a, A = some a → a.block ≠ b) : Hs (w.setCell ⟨b, k, none⟩ v) A n l :=
  ⟨h.len, h.ok, fun hn => by
    obtain ⟨q, o, e, h1, h2⟩ := h.cel hn
    have hq := hb _ e
    refine ⟨q, o, e, by simpa using h1, fun j u hj => ?_⟩
    have := h2 j u hj
    unfold World.cell? at *
    rw [Below.heap_setCell w ⟨b, k, none⟩ v q hq]
    exact this⟩
theorem right_prev {p : Pm} {l : List Hd} {h : Hd} (hm : mayS p = true) (hp : h.p ≠ idS (lastH l)) : rightS p l h = 9 := by
  unfold rightS
  rw [if_neg (by rw [hm]; simp), if_pos (.inr hp)]
theorem last_take {l : List Hd} {k : Nat} (h : k < l.length) : lastH (l.take (k + 1)) = nthH l k := by
  unfold lastH
  rw [List.length_take, Nat.min_eq_left (by omega), Nat.add_sub_cancel, nthH_take (by omega)]
/-- The header behind one whose hash is another's is refused. -/
theorem turned_prev {p : Pm} {l : List Hd} {k : Nat} {h : Hd} (hm : mayS p = true) (hk : k + 1 < l.length) (hl : (nthH l (k + 1)).p = idS (nthH l k)) (hne : idS h ≠ idS (nthH l k)) : rightS p ((l.set k h).take (k + 1)) (nthH (l.set k h) (k + 1)) = 9 := by
  refine right_prev hm ?_
  rw [last_take (by rw [List.length_set]; omega), nthH_set (by omega), nthH_set (by omega), if_pos rfl, if_neg (by omega), hl]
  exact fun q => hne q.symm
/-- A byte of a row of the call's own is turned. -/
theorem own_set {w0 wr : World} {A : Option Addr} {n c k : Nat} {L : List Nat} (h : Own w0 (.slice A n c) n L wr) (hk : k < n) :
    ∃ b, A = some ⟨b, 0, none⟩ ∧ w0.heap.size ≤ b ∧ b < wr.heap.size ∧ wr.cell? ⟨b, k, none⟩ = some (.int .u8 (nth L k : Nat)) ∧ wr.frozen? ⟨b, k, none⟩ = false ∧
      ∀ y : Nat, y < 256 → Bs (wr.setCell ⟨b, k, none⟩ (.int .u8 (y : Int))) (some ⟨b, 0, none⟩) n (L.set k y) := by
  have hl := h.len
  rcases h.row.2 with ⟨_, e⟩ | ⟨g, cap, cur, e, hb, hh, hc, _, hs, ht⟩
  · omega
  injection e with e1 e2 e3
  subst e1
  have R : Ro wr g 5 cur.toList := by unfold Ro; simpa using hh
  have at_ : ∀ j, j < n → cur.toList[j]? = some (.int .u8 (nth L j : Nat)) := fun j hj => by
    rw [← vals_get L j (by omega), ← ht, List.getElem?_take, if_pos (by omega)]
  have hlen : n ≤ cur.toList.length := by rw [Array.length_toList, hs]; omega
  refine ⟨g, rfl, hb, R.lt, R.cell (at_ k hk), R.free k, fun y hy => ⟨by rw [List.length_set]; exact hl, set_byt h.byt hy, fun _ => ⟨_, rfl, (R.set k _).lt, fun j hj => ?_⟩⟩⟩
  rw [add_at g 0 j, Nat.zero_add]
  refine (R.set k (.int .u8 (y : Int))).cell ?_
  rw [List.getElem?_set]
  by_cases e : k = j
  · subst e
    rw [if_pos rfl, if_pos (by omega), nth_set (by omega), if_pos rfl]
  · rw [if_neg e, at_ j hj, nth_set (by omega), if_neg (by omega)]

set_option maxRecDepth 100000 in
set_option maxHeartbeats 8000000 in
theorem rchain_law {A : Option Addr} {ai si ti bi n c : Nat} {L : List Nat} {w : World} (ha : ai < 256) (hs : si < 256) (_ : n ≤ c) (_ : c ≤ 9223372036854775807) (hL : Bs w A n L) (ht : ti < 256) (hbi : bi < 65536) (hLd : Laid w) :
    Calls Tryz.prog 4 #[.int .u8 (ai : Nat), .int .u8 (si : Nat), .slice A n c, .int .u8 (ti : Nat), .int .u16 (bi : Nat)] w fun e w' => e = .returned (.bool true) ∧ Below w.heap.size w w' := by
  have HD := Lib.hid hLd
  have HL := Lib.hid hL
  have HN := Lib.hid hL.len
  have HBy := Lib.hid hL.byt
  have FIN : Hid (∀ wx, Below w.heap.size w wx → Calls Tryz.prog 9 #[] wx fun e w' => e = .returned (.bool true) ∧ Below w.heap.size w w') := Lib.hid (fun wx b => (works_any wx (HD.out.later HD.out.lt b)).mono fun e w' ⟨h1, h2⟩ => ⟨h1, b.trans (h2.mono b.size)⟩)
  have l0 : Hid ((pmV zeroPm none 0 0).length = 72) := Lib.hid (pmV_len zeroH_ok _ _ _)
  have z0 := zeroPm_run
  clear hLd hL
  by_cases h1 : 40 < n
  · have q1 : decide ((40 : Int) < (n : Int)) = true := decide_eq_true (by omega)
    go_enter Tryz.func4, Tryz.ntmps4
    go_wp2_with fail
    refine (FIN.out _ (Below.refl _ _)).mono ?_
    rintro e w2 ⟨rfl, hb⟩
    have HB := Lib.hid hb
    go_wp2_with fail
    go_ret
    exact ⟨rfl, HB.out⟩
  have q1 : decide ((40 : Int) < (n : Int)) = false := decide_eq_false (by omega)
  obtain ⟨x1, hx1⟩ : ∃ x1, ai % 11 = x1 := ⟨_, rfl⟩
  have lx1 : x1 < 11 := by omega
  have yx : (ai : Int) % 11 = (x1 : Int) := by omega
  obtain ⟨x2, hx2⟩ : ∃ x2, si % 40 = x2 := ⟨_, rfl⟩
  have lx2 : x2 < 40 := by omega
  have yy : (si : Int) % 40 = (x2 : Int) := by omega
  obtain ⟨s1, hs1⟩ : ∃ s1, 1 + x2 = s1 := ⟨_, rfl⟩
  have ys : 1 + (x2 : Int) = (s1 : Int) := by omega
  have l1 : 1 ≤ s1 ∧ s1 ≤ 40 := by omega
  clear hx1 hx2 hs1
  have lP : Hid ((pmV (easyS (2 + (x1 : Int)) s1) none 0 0).length = 72) := Lib.hid (pmV_len ezH_ok _ _ _)
  have o1 : Hid (∀ u ∈ pmV (easyS (2 + (x1 : Int)) s1) none 0 0, u.oneCell' = true) := Lib.hid (pmV_one _ _ _ _)
  have EP : Hid (∀ wx, PmR wx (easyS (2 + (x1 : Int)) s1) none 0 0) := Lib.hid (fun wx => easy_r wx (by omega) (by omega) (by omega))
  have EM : Hid (mayS (easyS (2 + (x1 : Int)) s1) = true) := Lib.hid (easy_may (by omega) (by omega) (by omega) (by omega))
  have CE := Lib.hid (easy_any (2 + (x1 : Int)) s1)
  have CK : Hid (ChOk (easyS (2 + (x1 : Int)) s1) (chainS (easyS (2 + (x1 : Int)) s1) L)) := Lib.hid (chain_ok (fun x hx => HBy.out x hx) (by rw [HN.out]; omega))
  obtain ⟨p, hp⟩ : ∃ p, easyS (2 + (x1 : Int)) s1 = p := ⟨_, rfl⟩
  rw [hp] at lP o1 EP EM CE CK
  have EZ : Hid (p.pts = []) := Lib.hid (by rw [← hp]; rfl)
  clear hp
  go_enter Tryz.func4, Tryz.ntmps4
  go_wp2_with fail
  refine (CE.out _).mono ?_
  rintro e w1 ⟨rfl, hc⟩
  have HA1 := Lib.hid hc
  have R0 := Lib.hid (Ro.new w1 29 (pmV zeroPm none 0 0))
  clear hc CE
  go_wp2_with (refine wpList_store_ro rfl (.tmp 11) (.tmp 31) rfl rfl rfl rowPm R0.out l0.out lP.out o1.out ?_)
  intro w2 R2 g2
  have HA2 := Lib.hid (HA1.out.trans ((box_store g2).mono HA1.out.size))
  have HR2 := Lib.hid R2
  have hb7 := Lib.hid HA1.out.size
  clear g2 R2 R0 HA1 z0 yx yy ys lx1 lx2 l1 o1 l0
  generalize w1.heap.size = b7 at HR2 hb7 ⊢
  go_wp2_with (refine wpList_load_ro rfl (.tmp 11) rfl rfl rowPm HR2.out lP.out ?_)
  refine (chain_any w2 (EP.out w2) (by omega) (HL.out.later HA2.out)).mono ?_
  rintro e w3 ⟨C, m, f, rfl, O, hm1, hm2⟩
  obtain ⟨l, hl⟩ : ∃ l, chainS p L = l := ⟨_, rfl⟩
  rw [hl] at O CK
  have HA3 := Lib.hid (HA2.out.trans (O.bel.mono HA2.out.size))
  have HR3 := Lib.hid (HR2.out.later O.bel)
  have hcap := O.cap
  have HC := Lib.hid O.reads
  have HO := Lib.hid O
  have lm := Lib.hid O.len
  clear O HA2 HR2 hl
  obtain ⟨cb, co, rfl, _, _⟩ := HC.out.cel (by omega)
  have ad := add_at cb co
  have hm3 : m ≤ 41 := by omega
  go_wp2_with fail
  go_loopw [13] (fun i wr => ∃ j : Nat, 1 ≤ j ∧ j ≤ m ∧ i = .int .i64 (j : Nat) ∧ Below w3.heap.size w3 wr) (fun i _ => m - (intOf i).toNat)
  case atStart => exact ⟨1, by omega, by omega, rfl, Below.refl _ _⟩
  case round =>
    obtain ⟨j, hj1, hj, rfl, bel⟩ := hrel
    have HB := Lib.hid bel
    have HAr := Lib.hid (HA3.out.trans (bel.mono HA3.out.size))
    clear bel
    by_cases hlt : j < m
    · have PB := Lib.hid (HR3.out.later HB.out)
      have okg := Lib.hid (nthH_ok HC.out.ok j)
      have hat := (HC.out.later HB.out).at_ hlt
      have RG := Lib.hid hat.2
      have hbk := Lib.hid hat.1
      have ltk : Hid ((l.take j).length = j) := Lib.hid (by rw [List.length_take, lm.out]; omega)
      have eR := Lib.hid (right_good EM.out (by rw [ltk.out]; omega) (CK.out.good j hj1 (by rw [lm.out]; exact hlt)))
      have e0 : rightS p (l.take j) (nthH l j) = 0 := by rw [eR.out, EZ.out]; rfl
      have E0 := Lib.hid e0
      have CR : Hid (∀ u : After wr, Calls Tryz.prog 16 #[.agg (pmV p none 0 0).toArray, .slice (some ⟨cb, co, none⟩) j f, .agg (hdV (nthH l j)).toArray] u.w fun e w' => e = .returned (.int .i64 0) ∧ Below u.w.heap.size u.w w') := Lib.hid (fun u => by
        have q := right_chain u.w (HD.out.later HD.out.lt (HAr.out.trans (u.below.mono HAr.out.size))) (EP.out u.w) (m := j) (d := f) (by omega) (by omega) ((HC.out.later (HB.out.trans (u.below.mono HB.out.size))).left (by omega)) okg.out
        rw [E0.out] at q
        exact q)
      obtain ⟨g, hg⟩ : ∃ g, nthH l j = g := ⟨_, rfl⟩
      rw [hg] at okg RG CR
      have lg := Lib.hid (hdV_len okg.out)
      clear hat eR hg ltk e0 E0
      go_wp2_with fail
      refine wp_region_after (by kernel_rfl) (by kernel_rfl) ?_
      go_big_quiet_want
      refine quiet_load_part (.tmp 11) rfl rfl rowPm (fun w9 h9 => by obtain ⟨u, rfl⟩ := h9; exact rangeOf (PB.out.later u.below)) lP.out ?_
      simp only [Act.put, List.setIfInBounds_toArray, List.set_cons_succ, List.set_cons_zero]
      go_big_quiet_on
      repeat (go_big_quiet_step (fail))
      go_big_quiet_want
      refine quiet_load_part (.tmp 47) rfl rfl rowHd (fun w9 h9 => by obtain ⟨u, rfl⟩ := h9; exact range_later RG.out hbk.out u.below) lg.out ?_
      simp only [Act.put, List.setIfInBounds_toArray, List.set_cons_succ, List.set_cons_zero]
      go_big_quiet_on
      repeat (go_big_quiet_step ((go_at_call 16; exact after_call (CR.out _))))
      refine wpQuiet_nil ?_
      rintro _ ⟨u, rfl⟩
      have B2 := Lib.hid (HB.out.trans (u.below.mono HB.out.size))
      generalize u.w = wx at B2 ⊢
      clear CR RG PB hbk
      go_wp2_with fail
      exact ⟨⟨j + 1, by omega, by omega, by go_num, B2.out⟩, by simp [intOf]; omega⟩
    · obtain rfl : j = m := by omega
      by_cases h2 : j < 3
      · have q2 : decide ((j : Int) < 3) = true := decide_eq_true (by omega)
        go_wp2_with fail
        refine (FIN.out _ HAr.out).mono ?_
        rintro e w4 ⟨rfl, hb⟩
        have HBf := Lib.hid hb
        go_wp2_with fail
        go_ret
        exact ⟨rfl, HBf.out⟩
      have q2 : decide ((j : Int) < 3) = false := decide_eq_false (by omega)
      obtain ⟨r, hr⟩ : ∃ r, ti % (j - 2) = r := ⟨_, rfl⟩
      have hr1 : r < j - 2 := by rw [← hr]; exact Nat.mod_lt _ (by omega)
      have yr : (ti : Int) % ((j : Int) - 2) = (r : Int) := by
        rw [show (j : Int) - 2 = ((j - 2 : Nat) : Int) by omega, ← hr]
        rfl
      clear hr
      have qz : ((j : Int) - 2 == 0) = false := by simp; omega
      have hk1 : 1 + r < j := by omega
      have okg := Lib.hid (nthH_ok HC.out.ok (1 + r))
      have hat := (HC.out.later HB.out).at_ hk1
      have RG := Lib.hid hat.2
      have hbk := Lib.hid hat.1
      obtain ⟨g, hg⟩ : ∃ g, nthH l (1 + r) = g := ⟨_, rfl⟩
      rw [hg] at okg RG
      have lg := Lib.hid (hdV_len okg.out)
      have HG := Lib.hid hg
      clear hat hg
      go_wp2_with (refine wpList_load_part rfl (.tmp 64) rfl rfl rowHd RG.out lg.out ?_)
      refine (refPut_any okg.out _).mono ?_
      rintro e w4 ⟨B, b8, bc, rfl, hbc, OB⟩
      have lB : b8 = 80 := by rw [← OB.len]; exact hdB_len okg.out
      subst lB
      obtain ⟨x3, hx3⟩ : ∃ x3, bi / 8 % 80 = x3 := ⟨_, rfl⟩
      have k80 : x3 < 80 := by omega
      obtain ⟨bb, rfl, nb, lb, c0, f0, HS⟩ := own_set OB k80
      have ad2 := add_at bb 0
      have HA4 := Lib.hid (HAr.out.trans (OB.bel.mono HAr.out.size))
      have HC4 := Lib.hid ((HC.out.later HB.out).later OB.bel)
      have HR4 := Lib.hid ((HR3.out.later HB.out).later OB.bel)
      have hbb : Hid (b7 ≠ bb) := Lib.hid (by have := (HR3.out.later HB.out).lt; omega)
      have hcc : Hid (∀ a, some (⟨cb, co, none⟩ : Addr) = some a → a.block ≠ bb) := Lib.hid (by
        intro a e
        injection e with e
        subst e
        have := hbk.out
        show cb ≠ bb
        omega)
      have hlo : Hid (w.heap.size ≤ bb) := Lib.hid (Nat.le_trans HAr.out.size nb)
      have xl := nth_lt (hdB_byt okg.out) x3
      have HS' := Lib.hid HS
      clear HS nb lb OB RG hbk
      go_wp2_with fail
      obtain ⟨y, hy, ly⟩ : ∃ y : Nat, bits .xor .u8 ((nth (hdB g) x3 : Nat) : Int) (2 ^ (bi % 8) % 256) = (y : Int) ∧ y < 256 := ⟨nth (hdB g) x3 ^^^ (2 ^ (bi % 8) % 256), by
        have := xor_u8 (nth (hdB g) x3) (2 ^ (bi % 8) % 256) xl (Nat.mod_lt _ (by decide))
        push_cast at this ⊢
        exact this, xor_lt xl (Nat.mod_lt _ (by decide))⟩
      rw [hy]
      have L2 : ((hdB g).set x3 y).length = 80 := by rw [List.length_set]; exact hdB_len okg.out
      have BY2 := set_byt (k := x3) (hdB_byt okg.out) ly
      have CG := refGet_any (n := 80) (c := bc) (w4.setCell ⟨bb, x3, none⟩ (.int .u8 (y : Int))) rfl (HS'.out y ly)
      have gok := Lib.hid (getH_ok BY2 L2)
      obtain ⟨h, hh⟩ : ∃ h, getH ((hdB g).set x3 y) = h := ⟨_, rfl⟩
      rw [hh] at CG gok
      have gl := Lib.hid (hdV_len gok.out)
      have HA5 := Lib.hid (HA4.out.setCell (p := ⟨bb, x3, none⟩) hlo.out (.int .u8 (y : Int)))
      have HC5 := Lib.hid (hs_put (b := bb) (k := x3) (v := .int .u8 (y : Int)) HC4.out hcc.out)
      have HR5 := Lib.hid (HR4.out.other (k := x3) hbb.out (.int .u8 (y : Int)))
      clear hh hy xl c0 f0 HA4 HC4 HR4 HS' hcc hlo hbb ad2 yr qz
      generalize w4.setCell ⟨bb, x3, none⟩ (.int .u8 (y : Int)) = w5 at CG HA5 HC5 HR5 ⊢
      refine CG.mono ?_
      rintro e w6 ⟨rfl, hb6⟩
      have HA6 := Lib.hid (HA5.out.trans (hb6.mono HA5.out.size))
      have HC6 := Lib.hid (HC5.out.later hb6)
      have HR6 := Lib.hid (HR5.out.later hb6)
      have z0 := zeroHd
      clear hb6 CG HA5 HC5 HR5
      go_wp2_with (refine wpList_store_ro rfl (.tmp 16) (.tmp 82) rfl rfl rfl rowHd (Ro.new w6 27 (hdV zeroH)) rfl gl.out (hdV_one _) ?_)
      intro w7 X7 g7
      have B7 := Lib.hid (box_store g7)
      have RX := Lib.hid X7
      have HA7 := Lib.hid (HA6.out.trans (B7.out.mono HA6.out.size))
      have HC7 := Lib.hid (HC6.out.later B7.out)
      have HR7 := Lib.hid (HR6.out.later B7.out)
      clear X7 g7 HA6 HC6 HR6 z0 B7
      generalize w6.heap.size = b16 at RX ⊢
      have hat := HC7.out.at_ hk1
      rw [HG.out] at hat
      have RG := Lib.hid hat.2
      have hbk := Lib.hid hat.1
      clear hat
      have EQ := eqV (idS_len h) (idS_len g)
      obtain ⟨J, hJ⟩ : ∃ J, idS h = J := ⟨_, rfl⟩
      obtain ⟨I, hI⟩ : ∃ I, idS g = I := ⟨_, rfl⟩
      have CI1 : Hid (∀ u : After w7, Calls Tryz.prog 22 #[.agg (hdV h).toArray] u.w fun e w' => e = .returned (.agg (vals J).toArray) ∧ Below u.w.heap.size u.w w') := Lib.hid (fun u => by rw [← hJ]; exact refId_any gok.out u.w)
      have CI2 : Hid (∀ u : After w7, Calls Tryz.prog 22 #[.agg (hdV g).toArray] u.w fun e w' => e = .returned (.agg (vals I).toArray) ∧ Below u.w.heap.size u.w w') := Lib.hid (fun u => by rw [← hI]; exact refId_any okg.out u.w)
      rw [hJ, hI] at EQ
      have HJ := Lib.hid hJ
      have HI := Lib.hid hI
      clear hJ hI
      obtain ⟨t, ht2⟩ : ∃ t, eqB J I = t := ⟨_, rfl⟩
      rw [ht2] at EQ
      have HT := Lib.hid ht2
      clear ht2
      go_wp2_with fail
      refine wp_region_after (by kernel_rfl) (by kernel_rfl) ?_
      go_big_quiet_want
      refine quiet_load_part (.tmp 16) rfl rfl rowHd (fun w9 h9 => by obtain ⟨u, rfl⟩ := h9; exact rangeOf (RX.out.later u.below)) gl.out ?_
      simp only [Act.put, List.setIfInBounds_toArray, List.set_cons_succ, List.set_cons_zero]
      go_big_quiet_on
      repeat (go_big_quiet_step ((go_at_call 22; exact after_call (CI1.out _))))
      go_big_quiet_want
      refine quiet_load_part (.tmp 90) rfl rfl rowHd (fun w9 h9 => by obtain ⟨u, rfl⟩ := h9; exact range_later RG.out hbk.out u.below) lg.out ?_
      simp only [Act.put, List.setIfInBounds_toArray, List.set_cons_succ, List.set_cons_zero]
      go_big_quiet_on
      repeat (go_big_quiet_step ((go_at_call 22; exact after_call (CI2.out _))))
      refine wpQuiet_nil ?_
      rintro _ ⟨u, rfl⟩
      have HA8 := Lib.hid (HA7.out.trans (u.below.mono HA7.out.size))
      have HC8 := Lib.hid (HC7.out.later u.below)
      have HR8 := Lib.hid (HR7.out.later u.below)
      have RX8 := Lib.hid (RX.out.later u.below)
      clear HA7 HC7 HR7 RX RG hbk CI1 CI2 EQ
      generalize u.w = w8 at HA8 HC8 HR8 RX8 ⊢
      cases t with
      | true =>
        go_wp2_with fail
        refine (FIN.out _ HA8.out).mono ?_
        rintro e w9 ⟨rfl, hb⟩
        have HBf := Lib.hid hb
        go_wp2_with fail
        go_ret
        exact ⟨rfl, HBf.out⟩
      | false =>
        have hne : J ≠ I := by
          intro e
          have := HT.out
          rw [eqB_yes e] at this
          cases this
        have O0 := Lib.hid (show OwnH w8 (.slice (some ⟨w8.heap.size, 0, none⟩) 0 0) 0 [] (w8.alloc (.cells #[] 27)) from ⟨World.ownsRow_made w8 #[] 0 (Nat.le_refl _) (by unfold maxLen; omega) rfl, okAll_nil, (Below.refl _ _).alloc (Nat.le_refl _) _⟩)
        have H0 := Lib.hid (HC8.out.later ((Below.refl w8.heap.size w8).alloc (Nat.le_refl _) (.cells #[] 27)))
        have HNE := Lib.hid hne
        clear hne
        go_wp2_with (at_builtin; refine wpList_appHs rfl (.tmp 95) (.tmp 96) rfl rfl O0.out rfl H0.out (by omega) ?_)
        intro A1 c1 w9 hc1 O1
        have BL9 := Lib.hid O1.bel
        obtain ⟨g1, cap, hv, _⟩ := O1.row.form (by omega)
        injection hv with e1 e2 e3
        clear e3
        subst e1
        obtain ⟨R, hR⟩ := O1.rowZ
        have HZ := Lib.hid hR
        have hg1 : w8.heap.size ≤ g1 := hR.new
        have RX9 := Lib.hid (RX8.out.later BL9.out)
        have HR9 := Lib.hid (HR8.out.later BL9.out)
        have n7 : Hid (b7 ≠ g1) := Lib.hid (by have := HR8.out.lt; omega)
        have n16 : Hid (b16 ≠ g1) := Lib.hid (by have := RX8.out.lt; omega)
        have lZ : Hid ((1 + r) * 68 + 68 ≤ (hsV l ++ R).length) := Lib.hid (by rw [List.length_append, hsV_len hR.ok, hR.len]; omega)
        have ad3 : ∀ o i, (⟨g1, o, none⟩ : Addr).add i = ⟨g1, o + i, none⟩ := add_at g1
        clear O0 H0 O1 hR RX8 HR8
        go_wp2_with (first | (refine wpList_load_ro rfl (.tmp 16) rfl rfl rowHd RX9.out gl.out ?_) | (refine wpList_store_part rfl (.tmp 101) (.tmp 100) rfl rfl rfl rowHd HZ.out.row lZ.out gl.out (hdV_one _) ?_))
        intro w10 R10 g10
        have Z10 := Lib.hid (HZ.out.setH (k := 1 + r) hk1 gok.out R10 g10)
        have HR10 := Lib.hid (HR9.out.far g10 (fun e => by injection e with e; exact n7.out e))
        have RX10 := Lib.hid (RX9.out.far g10 (fun e => by injection e with e; exact n16.out e))
        have P9 : Hid (rightS p ((l.set (1 + r) h).take (1 + r + 1)) (nthH (l.set (1 + r) h) (1 + r + 1)) = 9) := Lib.hid (turned_prev EM.out (by rw [lm.out]; omega) (by
          rw [(CK.out.good (1 + r + 1) (by omega) (by rw [lm.out]; omega)).prev, last_take (by rw [lm.out]; omega)]) (by rw [HJ.out, HG.out, HI.out]; exact HNE.out))
        obtain ⟨T, hT⟩ : ∃ T, l.set (1 + r) h = T := ⟨_, rfl⟩
        rw [hT] at Z10 P9
        have HA10 := Lib.hid (HA8.out.trans (Z10.out.bel.mono HA8.out.size))
        have hatT := Z10.out.hs.at_ (k := 1 + r + 1) (by omega)
        rw [Nat.zero_add] at hatT
        have RG2 := Lib.hid hatT.2
        have hbk2 := Lib.hid hatT.1
        have okq := Lib.hid (nthH_ok Z10.out.ok (1 + r + 1))
        obtain ⟨q2, hq2⟩ : ∃ q2, nthH T (1 + r + 1) = q2 := ⟨_, rfl⟩
        rw [hq2] at RG2 okq P9
        have lq := Lib.hid (hdV_len okq.out)
        have hcj : j ≤ c1 := hc1
        have CW : Hid (∀ u : After w10, Calls Tryz.prog 9 #[] u.w fun e w' => e = .returned (.bool true) ∧ Below u.w.heap.size u.w w') := Lib.hid (fun u => works_any u.w (HD.out.later HD.out.lt (HA10.out.trans (u.below.mono HA10.out.size))))
        have CR2 : Hid (∀ u : After w10, Calls Tryz.prog 16 #[.agg (pmV p none 0 0).toArray, .slice (some ⟨g1, 0, none⟩) (1 + r + 1) c1, .agg (hdV q2).toArray] u.w fun e w' => e = .returned (.int .i64 9) ∧ Below u.w.heap.size u.w w') := Lib.hid (fun u => by
          have q := right_chain u.w (HD.out.later HD.out.lt (HA10.out.trans (u.below.mono HA10.out.size))) (EP.out u.w) (m := 1 + r + 1) (d := c1) (by omega) (by omega) ((Z10.out.hs.later u.below).left (by omega)) okq.out
          rw [P9.out] at q
          exact q)
        obtain ⟨x4, hx4⟩ : ∃ x4 : Nat, rightS p (T.take (1 + r)) h = x4 := ⟨_, rfl⟩
        have CR1 : Hid (∀ u : After w10, Calls Tryz.prog 16 #[.agg (pmV p none 0 0).toArray, .slice (some ⟨g1, 0, none⟩) (1 + r) c1, .agg (hdV h).toArray] u.w fun e w' => e = .returned (.int .i64 (x4 : Nat)) ∧ Below u.w.heap.size u.w w') := Lib.hid (fun u => by
          have q := right_chain u.w (HD.out.later HD.out.lt (HA10.out.trans (u.below.mono HA10.out.size))) (EP.out u.w) (m := 1 + r) (d := c1) (by omega) (by omega) ((Z10.out.hs.later u.below).left (by omega)) gok.out
          rw [hx4] at q
          exact q)
        clear hT hq2 hx4 hatT R10 g10 HZ BL9 RX9 HR9 lZ n7 n16 HA8 HC8
        by_cases e4 : x4 = 0
        · subst e4
          have CRz := CR1
          clear CR1
          have CR1 : Hid (∀ u : After w10, Calls Tryz.prog 16 #[.agg (pmV p none 0 0).toArray, .slice (some ⟨g1, 0, none⟩) (1 + r) c1, .agg (hdV h).toArray] u.w fun e w' => e = .returned (.int .i64 0) ∧ Below u.w.heap.size u.w w') := CRz
          clear CRz
          go_wp2_with fail
          refine wp_region_after (by kernel_rfl) (by kernel_rfl) ?_
          go_big_quiet_want
          refine quiet_load_part (.tmp 11) rfl rfl rowPm (fun w9 h9 => by obtain ⟨u, rfl⟩ := h9; exact rangeOf (HR10.out.later u.below)) lP.out ?_
          simp only [Act.put, List.setIfInBounds_toArray, List.set_cons_succ, List.set_cons_zero]
          go_big_quiet_on
          repeat (go_big_quiet_step (fail))
          go_big_quiet_want
          refine quiet_load_part (.tmp 16) rfl rfl rowHd (fun w9 h9 => by obtain ⟨u, rfl⟩ := h9; exact rangeOf (RX10.out.later u.below)) gl.out ?_
          simp only [Act.put, List.setIfInBounds_toArray, List.set_cons_succ, List.set_cons_zero]
          go_big_quiet_on
          repeat (go_big_quiet_step ((go_at_call 16; exact after_call (CR1.out _))))
          go_big_quiet_want
          refine quiet_load_part (.tmp 11) rfl rfl rowPm (fun w9 h9 => by obtain ⟨u, rfl⟩ := h9; exact rangeOf (HR10.out.later u.below)) lP.out ?_
          simp only [Act.put, List.setIfInBounds_toArray, List.set_cons_succ, List.set_cons_zero]
          go_big_quiet_on
          repeat (go_big_quiet_step (fail))
          go_big_quiet_want
          refine quiet_load_part (.tmp 118) rfl rfl rowHd (fun w9 h9 => by obtain ⟨u, rfl⟩ := h9; exact range_later RG2.out hbk2.out u.below) lq.out ?_
          simp only [Act.put, List.setIfInBounds_toArray, List.set_cons_succ, List.set_cons_zero]
          go_big_quiet_on
          repeat (go_big_quiet_step ((go_at_call 16; exact after_call (CR2.out _))))
          repeat (go_big_quiet_step ((go_at_call 9; exact after_call (CW.out _))))
          refine wpQuiet_nil ?_
          rintro _ ⟨u, rfl⟩
          have HBf := Lib.hid (HA10.out.trans (u.below.mono HA10.out.size))
          go_wp2_with fail
          go_ret
          exact ⟨rfl, HBf.out⟩
        · have q4 : ((x4 : Int) != 0) = true := by simp; omega
          have HE4 := Lib.hid e4
          clear e4
          go_wp2_with fail
          refine wp_region_after (by kernel_rfl) (by kernel_rfl) ?_
          go_big_quiet_want
          refine quiet_load_part (.tmp 11) rfl rfl rowPm (fun w9 h9 => by obtain ⟨u, rfl⟩ := h9; exact rangeOf (HR10.out.later u.below)) lP.out ?_
          simp only [Act.put, List.setIfInBounds_toArray, List.set_cons_succ, List.set_cons_zero]
          go_big_quiet_on
          repeat (go_big_quiet_step (fail))
          go_big_quiet_want
          refine quiet_load_part (.tmp 16) rfl rfl rowHd (fun w9 h9 => by obtain ⟨u, rfl⟩ := h9; exact rangeOf (RX10.out.later u.below)) gl.out ?_
          simp only [Act.put, List.setIfInBounds_toArray, List.set_cons_succ, List.set_cons_zero]
          go_big_quiet_on
          repeat (go_big_quiet_step ((go_at_call 16; exact after_call (CR1.out _))))
          repeat (go_big_quiet_step ((go_at_call 9; exact after_call (CW.out _))))
          refine wpQuiet_nil ?_
          rintro _ ⟨u, rfl⟩
          have HBf := Lib.hid (HA10.out.trans (u.below.mono HA10.out.size))
          go_wp2_with fail
          go_ret
          exact ⟨rfl, HBf.out⟩
end Go.Proofs.YtimjmmiajgfblaaGreatDoor
