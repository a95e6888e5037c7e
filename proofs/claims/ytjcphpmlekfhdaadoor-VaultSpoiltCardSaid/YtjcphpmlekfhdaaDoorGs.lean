/- VaultSpoilt without memory: a disk whose other file is empty; what Open finds in a file that was cut or turned. No condition but bounds. -/
import Derived.Test.YtjcphpmlekfhdaaDoorGn
import Derived.Test.YtjcphpmlekfhdaaDoorRsC

namespace Go.Proofs.YtjcphpmlekfhdaaDoor

/-- A disk with power and no fuse, of which file 0 is empty. -/
def D1 (m : Nat) (x : Fl) : Dk := ⟨m, false, -1, ⟨[], []⟩, x⟩
section
variable {m : Nat} {x : Fl} {b t : List Nat} {l : List (List Nat)}
theorem d1_room : (D1 m x).room = m - x.at.length := by unfold Dk.room D1; rfl
theorem d1_write (h : b.length ≤ m - x.at.length) : (D1 m x).write 1 b = (0, D1 m (x.add (.w b))) := by
  unfold Dk.write
  rw [if_neg (by intro h; exact h rfl), d1_room, if_neg (by omega)]
  rfl
theorem d1_cut {n : Nat} (h : n ≤ x.at.length) : (D1 m x).cut 1 (n : Nat) = (0, D1 m (x.add (.c n))) := by
  unfold Dk.cut
  have e : (((D1 m x).at (1 : Int).toNat).at.length : Int) = (x.at.length : Int) := rfl
  rw [if_neg (by intro h; exact h rfl), e, if_neg (by omega)]
  rfl
theorem d1_sync : (D1 m x).sync 1 = (0, D1 m x.settle) := rfl
theorem d1_read : (D1 m x).read 1 = (x.at, 0) := rfl
theorem d1_alive {F : List Nat} {g : Nat} (h : Fm 1 g l F) : Alive (D1 m ⟨F, []⟩) 1 g l :=
  ⟨rfl, Nat.le_refl _, h, rfl, fun L o y hy => (by
    rw [out_sure rfl o, soundS_short (by show ([] : List Nat).length < 44; decide)] at hy
    cases hy), rfl⟩
theorem front_fm : Fm 1 1 [] (frontS 1 0) := ⟨⟨0, Nat.le_refl _, by decide, by rw [framesS, List.append_nil]⟩, by decide, by decide, by decide, fun r hr => by cases hr⟩
/-- A vault is begun on whatever lies in file 1. -/
theorem d1_begin (hm : 44 ≤ m) : seqS (beginL x.at.length 0) (D1 m x) = (0, D1 m ⟨frontS 1 0, []⟩) := by
  have e0 : beginL x.at.length 0 = [fun S => S.cutTo 1 x.at.length 0, fun S => S.cutTo 0 0 0, fun S => S.write 1 (frontS 1 0), fun S => S.sync 1] := rfl
  have hl := frontS_len 1 0
  obtain ⟨x1, h1, h2⟩ : ∃ x1 : Fl, (D1 m x).cutTo 1 x.at.length 0 = (0, D1 m x1) ∧ x1.at = [] := by
    unfold Dk.cutTo
    by_cases h : x.at.length = 0
    · rw [if_pos h]
      exact ⟨x, rfl, List.length_eq_zero_iff.1 h⟩
    · rw [if_neg h]
      exact ⟨_, d1_cut (Nat.zero_le _), by rw [Fl.at_add]; rfl⟩
  obtain ⟨F, hF⟩ : ∃ F, frontS 1 0 = F := ⟨_, rfl⟩
  rw [hF] at e0 hl ⊢
  rw [e0, four_steps, h1, if_pos rfl, three_steps, cutTo_same, if_pos rfl, two_steps, d1_write (by rw [h2, hl]; exact hm), if_pos rfl, d1_sync, if_pos rfl]
  congr 2
  unfold Fl.settle
  rw [Fl.at_add, h2]
  rfl
theorem d1_best0 : bestS (fun i => ((D1 m x).at i).at) 1 = none := by
  rw [bestS_none (i := 0) (soundS_short (by show ([] : List Nat).length < 44; decide))]
  rfl
theorem new_file (hm : 44 ≤ m) : openS (newD m) = (0, D1 m ⟨frontS 1 0, []⟩, 1, 1, []) := by
  have hb : bestS (fun i => ((newD m).at i).at) 2 = none := by
    rw [bestS_none (i := 1) (soundS_short (by show ([] : List Nat).length < 44; decide))]
    exact d1_best0 (m := m) (x := ⟨[], []⟩)
  unfold openS
  rw [if_neg (by simp [newD]), hb]
  dsimp only
  have e := d1_begin (m := m) (x := ⟨[], []⟩) hm
  have e2 : seqS (beginL (newD m).g.at.length (newD m).f.at.length) (newD m) = (0, D1 m ⟨frontS 1 0, []⟩) := e
  rw [e2]
theorem file_add (hl : 44 + wideS l ≤ m) (hL : longS l = false) : addT false 1 1 0 l (D1 m ⟨frontS 1 0, []⟩) = (0, D1 m ⟨frontS 1 0 ++ framesS 1 0 l, []⟩, l.length, false) := by
  have hm : mayN false l = 0 := by unfold mayN; rw [hL]; rfl
  have hf := frontS_len 1 0
  unfold addT
  rw [if_pos hm]
  unfold addS
  have hr : (D1 m ⟨frontS 1 0, []⟩).room = m - 44 := by rw [d1_room]; show m - (frontS 1 0).length = _; rw [hf]
  rw [hr, if_neg (by omega)]
  by_cases h0 : l = []
  · subst h0
    rw [if_pos rfl, framesS, List.append_nil]
    rfl
  · rw [if_neg h0, two_steps]
    have hw : (D1 m ⟨frontS 1 0, []⟩).write ((1 : Nat) : Int) (framesS 1 0 l) = (0, D1 m (Fl.add ⟨frontS 1 0, []⟩ (.w (framesS 1 0 l)))) := d1_write (by rw [framesS_len]; show _ ≤ m - (frontS 1 0).length; omega)
    dsimp only
    rw [hw, if_pos rfl]
    dsimp only
    have hs : (D1 m (Fl.add ⟨frontS 1 0, []⟩ (.w (framesS 1 0 l)))).sync ((1 : Nat) : Int) = (0, D1 m ⟨frontS 1 0 ++ framesS 1 0 l, []⟩) := by
      have e := d1_sync (m := m) (x := Fl.add ⟨frontS 1 0, []⟩ (.w (framesS 1 0 l)))
      unfold Fl.settle at e
      rw [Fl.at_add] at e
      exact e
    rw [hs, if_pos rfl]
    dsimp only
    rw [if_pos rfl, Nat.zero_add]
    rfl
/-- The records that a file has. -/
def recOf (t : List Nat) : List (List Nat) := match soundS 1 t with | some y => y.2.1 | none => []
theorem find_open (hx : x.at = t) (hb : AllB t) (hm : 44 ≤ m) : ∃ U g, openS (D1 m x) = (0, U, 1, g, recOf t) ∧ Alive U 1 g (recOf t) ∧ U.fuse = -1 ∧ U.most = m ∧ wideS (recOf t) ≤ t.length := by
  have ha : ((D1 m x).at 1).at = t := hx
  unfold openS recOf
  rw [if_neg (by simp [D1])]
  cases hs : soundS 1 t with
  | none =>
    have hb2 : bestS (fun i => ((D1 m x).at i).at) 2 = none := by
      rw [bestS_none (i := 1) (by rw [ha]; exact hs)]
      exact d1_best0
    rw [hb2]
    dsimp only
    have e2 : seqS (beginL (D1 m x).g.at.length (D1 m x).f.at.length) (D1 m x) = (0, D1 m ⟨frontS 1 0, []⟩) := d1_begin hm
    rw [e2]
    exact ⟨_, 1, rfl, d1_alive front_fm, rfl, rfl, Nat.zero_le _⟩
  | some y =>
    obtain ⟨g, l, gd⟩ := y
    have hg := soundS_gen hs
    have hb2 : bestS (fun i => ((D1 m x).at i).at) 2 = some (1, g, l, gd) := bestS_less (i := 1) (by rw [ha]; exact hs) (by rw [d1_best0]; exact hg.1)
    obtain ⟨fm, hgd⟩ := soundS_form hb hs
    rw [hb2]
    dsimp only
    have e0 : seqS (openL 1 ((D1 m x).at 1).at.length ((D1 m x).at (1 - 1)).at.length gd) (D1 m x) = (0, D1 m ⟨t.take gd, []⟩) := by
      rw [ha]
      have e1 : openL 1 t.length ((D1 m x).at (1 - 1)).at.length gd = [fun S => S.cutTo 1 t.length gd, fun S => S.sync 1, fun S => S.cutTo 0 0 0] := rfl
      obtain ⟨x1, h1, h2⟩ : ∃ x1 : Fl, (D1 m x).cutTo 1 t.length gd = (0, D1 m x1) ∧ x1.at = t.take gd := by
        unfold Dk.cutTo
        by_cases h : t.length = gd
        · rw [if_pos h]
          exact ⟨x, rfl, by rw [hx, List.take_of_length_le (by omega)]⟩
        · rw [if_neg h]
          exact ⟨_, d1_cut (by rw [hx]; exact hgd), by rw [Fl.at_add, hx]; rfl⟩
      rw [e1, three_steps, h1, if_pos rfl, two_steps, d1_sync, if_pos rfl]
      dsimp only
      rw [cutTo_same, if_pos rfl]
      unfold Fl.settle
      rw [h2]
    rw [e0]
    refine ⟨_, g, rfl, d1_alive fm, rfl, rfl, ?_⟩
    have h := fm.len
    rw [List.length_take] at h
    show wideS l ≤ _
    omega
/-- Of a file that is cut the records whose frames are whole. -/
theorem recs_cut (hr : ∀ r ∈ l, r.length ≤ 32768) {k want : Nat} (hw : want ≤ l.length) (h1 : 44 + wideS (l.take want) ≤ k ∨ want = 0) (h2 : want < l.length → k < 44 + wideS (l.take (want + 1))) : recOf ((frontS 1 0 ++ framesS 1 0 l).take k) = l.take want := by
  have hf := frontS_len 1 0
  by_cases hk : k < 44
  · have h0 : want = 0 := by omega
    subst h0
    unfold recOf
    rw [soundS_short (by rw [List.length_take]; omega), List.take_zero]
  · have hwk : 44 + wideS (l.take want) ≤ k := by
      rcases h1 with h | h
      · exact h
      · subst h
        rw [List.take_zero]
        show 44 + 0 ≤ k
        omega
    have el : (l.take want).length = want := by rw [List.length_take]; omega
    have e1 : (frontS 1 0 ++ framesS 1 0 l).take k = frontS 1 0 ++ (framesS 1 0 (l.take want) ++ (framesS 1 want (l.drop want)).take (k - 44 - wideS (l.take want))) := by
      rw [List.take_append, hf, List.take_of_length_le (by omega)]
      congr 1
      have e2 : framesS 1 0 l = framesS 1 0 (l.take want) ++ framesS 1 want (l.drop want) := by
        have := framesS_app 1 0 (l.take want) (l.drop want)
        rw [List.take_append_drop, el, Nat.zero_add] at this
        exact this
      rw [e2, List.take_append, framesS_len, List.take_of_length_le (by rw [framesS_len]; omega)]
    obtain ⟨q, hq⟩ : ∃ q, (framesS 1 want (l.drop want)).take (k - 44 - wideS (l.take want)) = q := ⟨_, rfl⟩
    have hn : ∀ f, wholeS 1 f want q = [] := by
      have hfst : firstS 1 want q = none := by
        rw [← hq]
        cases hd : l.drop want with
        | nil =>
          unfold firstS
          rw [if_pos (by rw [List.length_take]; show min _ 0 < 36; omega)]
        | cons r rest =>
          have hwl : want < l.length := by
            have := congrArg List.length hd
            rw [List.length_drop, List.length_cons] at this
            omega
          have er : l[want] = r := by
            have := List.drop_eq_getElem_cons hwl
            rw [hd] at this
            exact (List.cons.inj this).1.symm
          have h3 := h2 hwl
          rw [wide_take hwl, er] at h3
          rw [framesS, take_app_le (by rw [frameS_len]; omega)]
          exact firstS_cut (hr r (by rw [← er]; exact List.getElem_mem hwl)) (by omega)
      intro f
      cases f with
      | zero => rfl
      | succ f => rw [wholeS, hfst]
    have e3 : recsS 1 (framesS 1 0 (l.take want) ++ q) = l.take want := by
      unfold recsS
      rw [wholeS_frames 1 (l.take want) 0 _ q (fun r h => hr r (List.mem_of_mem_take h)) (Nat.le_refl _), el, Nat.zero_add, hn, List.append_nil]
    rw [e1, hq]
    unfold recOf
    rw [soundS_front (by decide) (by decide) (by decide) (by decide), e3, if_neg (by omega)]
end
end Go.Proofs.YtjcphpmlekfhdaaDoor

/- A byte of a row of the call's own is turned. No condition. -/
namespace Go.Proofs.YtjcphpmlekfhdaaDoor
open Go.RowKit

theorem ofInt_nat8 (a : Nat) : (BitVec.ofInt 8 (a : Int)).toNat = a % 256 := by
  rw [BitVec.ofInt_natCast]; rfl
theorem wrap_nat8 (a : Nat) : IntKind.u8.wrap (a : Int) = ((a % 256 : Nat) : Int) := by
  simp [IntKind.wrap, IntKind.bits, IntKind.signed]
theorem xor_u8 (x y : Nat) (hx : x < 256) (hy : y < 256) : bits .xor .u8 (x : Int) (y : Int) = ((x ^^^ y : Nat) : Int) := by
  have h : x ^^^ y < 256 := Nat.xor_lt_two_pow (n := 8) hx hy
  show IntKind.u8.wrap ((BitVec.ofInt 8 (x : Int) ^^^ BitVec.ofInt 8 (y : Int)).toNat : Int) = _
  rw [BitVec.toNat_xor, ofInt_nat8, ofInt_nat8, wrap_nat8, Nat.mod_eq_of_lt hx, Nat.mod_eq_of_lt hy, Nat.mod_eq_of_lt h]
theorem xor_lt {x y : Nat} (hx : x < 256) (hy : y < 256) : x ^^^ y < 256 := Nat.xor_lt_two_pow (n := 8) hx hy
theorem set_byt {L : List Nat} {k y : Nat} (h : AllB L) (hy : y < 256) : AllB (L.set k y) := fun x hx => by
  rcases List.mem_or_eq_of_mem_set hx with h1 | h1
  · exact h x h1
  · subst h1; exact hy
theorem own_turn {w0 wr : World} {A : Option Addr} {n c k y : Nat} {L : List Nat} (O : Own w0 (.slice A n c) n L wr) (hk : k < n) (hy : y < 256) :
    ∃ g, A = some ⟨g, 0, none⟩ ∧ w0.heap.size ≤ g ∧ g < wr.heap.size ∧ wr.cell? ⟨g, k, none⟩ = some (.int .u8 (nth L k : Nat)) ∧ wr.frozen? ⟨g, k, none⟩ = false ∧ Own w0 (.slice A n c) n (L.set k y) (wr.setCell ⟨g, k, none⟩ (.int .u8 (y : Int))) := by
  have hl := O.len
  obtain ⟨h1, h2⟩ := O.row
  rcases h2 with ⟨_, h⟩ | ⟨g, cap, cur, hv, hb, hh, h3, h4, h5, h6⟩
  · omega
  · injection hv with hv1 hv2 hv3
    subst hv1 hv3
    have R : Ro wr g 5 cur.toList := hh
    have R2 := R.set k (.int .u8 (y : Int))
    have hck : cur.toList[k]? = some (.int .u8 (nth L k : Nat)) := by
      have e : (cur.toList.take (n * 1))[k]? = cur.toList[k]? := List.getElem?_take_of_lt (by omega)
      rw [← e, h6]
      exact vals_get L k (by omega)
    refine ⟨g, rfl, hb, R.lt, R.cell hck, R.free k, ⟨⟨by rw [vals_length, List.length_set]; omega, .inr ⟨g, c, (cur.toList.set k (.int .u8 (y : Int))).toArray, rfl, hb, R2, h3, h4, ?_, ?_⟩⟩, set_byt O.byt hy, O.bel.setCell (p := ⟨g, k, none⟩) hb _⟩⟩
    · simp only [List.size_toArray, List.length_set, Array.length_toList]
      exact h5
    · show ((cur.toList.set k (.int .u8 (y : Int)))).take (n * 1) = _
      rw [List.take_set, h6, vals_set]
theorem dp_inn {w0 w : World} {d : Nat} {X : Nat → Prop} {S : Dk} (D : Dp w0 d X S w) : ∀ b, X b → b < w.heap.size := by
  obtain ⟨F, _, h⟩ := D
  exact fun b hb => (h b hb).2
theorem own_cap {w0 wr : World} {A : Option Addr} {n c : Nat} {L : List Nat} (O : Own w0 (.slice A n c) n L wr) : c ≤ 9223372036854775807 := by
  rcases O.row.2 with ⟨h, _⟩ | ⟨g, cap, cur, hv, _, _, _, h4, _⟩
  · injection h with _ _ h
    omega
  · injection hv with _ _ h
    subst h
    unfold maxLen at h4
    omega
theorem d1_cnt {m : Nat} {x : Fl} (h : x.loose.length ≤ 2) : (D1 m x).cnt ≤ 2 := by
  show 0 + x.loose.length ≤ 2
  omega
theorem own_empty (w : World) : Own w (.slice (some ⟨w.heap.size, 0, none⟩) 0 0) 0 [] (w.alloc (.cells #[] 5)) := Own.made (Below.refl _ _) #[] 0 (by unfold maxLen; omega) rfl
end Go.Proofs.YtjcphpmlekfhdaaDoor
