/- Unhex of the package octet: letters as bytes. No condition but a bound on the length. -/
import Derived.Test.YtcnmplkljpkheaaShelf
import Derived.Test.YtcnmplkljpkheaaHex
namespace Go.Proofs.Ytcnmplkljpkheaa
open Go.RowKit

/-- The bytes of a string. -/
def strL (s : ByteArray) : List Nat := s.data.toList.map UInt8.toNat
theorem strL_length (s : ByteArray) : (strL s).length = s.size := by
  unfold strL
  rw [List.length_map]; rfl
theorem strL_byt (s : ByteArray) : AllB (strL s) := fun x hx => by
  simp only [strL, List.mem_map] at hx
  obtain ⟨y, _, rfl⟩ := hx
  exact y.toNat_lt
theorem strL_strB {L : List Nat} (h : AllB L) : strL (strB L) = L := by
  simp only [strL, strB, List.map_map]
  conv => rhs; rw [← List.map_id L]
  apply List.map_congr_left
  intro x hx
  have := h x hx
  simp; omega
theorem strB_strL (s : ByteArray) : strB (strL s) = s := by
  apply ByteArray.ext
  apply Array.toList_inj.1
  simp only [strL, strB, List.map_map]
  conv => rhs; rw [← List.map_id s.data.toList]
  apply List.map_congr_left
  intro x _
  simp
theorem index_str (s : ByteArray) (j : Nat) (hj : j < s.size) (i : Int) (e : i = (j : Int)) (W : World) : (Instr.index 9 (.string s) (.int .i64 i)).run Try.prog W = .ok (.int .u8 (nth (strL s) j : Nat)) W := by
  subst e
  rw [run_index_string W 9 s .i64 (j : Int) Try.underlying9, dif_pos ⟨by omega, by omega⟩]
  have : nth (strL s) j = (s[(j : Int).toNat]'(by rw [Int.toNat_natCast]; exact hj)).toNat := by
    have h2 : j < s.data.toList.length := by simpa using hj
    have h3 : (strL s)[j]? = some (s.data.toList[j]).toNat := by
      unfold strL
      rw [List.getElem?_map, List.getElem?_eq_getElem h2]; rfl
    unfold nth
    rw [List.getD_eq_getElem?_getD, h3]
    rfl
  rw [this]

/-- What a letter says. -/
def hokB (c : Nat) : Bool := (decide (48 ≤ c) && decide (c < 58)) || (decide (97 ≤ c) && decide (c < 103))
def hv (c : Nat) : Nat := if c < 58 then c - 48 else c - 87
theorem hv_lt {c : Nat} (h : hokB c = true) : hv c < 16 := by
  unfold hokB at h
  unfold hv
  simp at h
  split <;> omega
theorem index_all : ∀ y : Fin 256, Lib.indexByte [48, 49, 50, 51, 52, 53, 54, 55, 56, 57, 97, 98, 99, 100, 101, 102] y.val.toUInt8 = if hokB y.val = true then (hv y.val : Int) else -1 := by decide +kernel
theorem index_yes {c : Nat} (hc : c < 256) (h : hokB c = true) (w : World) : Calls Try.prog 38 #[.string { data := #[48, 49, 50, 51, 52, 53, 54, 55, 56, 57, 97, 98, 99, 100, 101, 102] }, .int .u8 (c : Nat)] w fun e w' => e = .returned (.int .i64 (hv c : Nat)) ∧ w' = w := by
  have h1 := Try.strings_IndexByte { data := #[48, 49, 50, 51, 52, 53, 54, 55, 56, 57, 97, 98, 99, 100, 101, 102] } (c : Int) w
  have h2 := index_all ⟨c, hc⟩
  simp only [h, if_true] at h2
  rw [Int.toNat_natCast, h2] at h1
  exact h1
theorem index_no {c : Nat} (hc : c < 256) (h : hokB c = false) (w : World) : Calls Try.prog 38 #[.string { data := #[48, 49, 50, 51, 52, 53, 54, 55, 56, 57, 97, 98, 99, 100, 101, 102] }, .int .u8 (c : Nat)] w fun e w' => e = .returned (.int .i64 (-1)) ∧ w' = w := by
  have h1 := Try.strings_IndexByte { data := #[48, 49, 50, 51, 52, 53, 54, 55, 56, 57, 97, 98, 99, 100, 101, 102] } (c : Int) w
  have h2 := index_all ⟨c, hc⟩
  simp only [h, Bool.false_eq_true, if_false] at h2
  rw [Int.toNat_natCast, h2] at h1
  exact h1
theorem index_v {c : Nat} (hc : c < 256) : ∃ v : Int, (hokB c = true → v = (hv c : Nat)) ∧ (hokB c = false → v = -1) ∧ ∀ w : World, Calls Try.prog 38 #[.string { data := #[48, 49, 50, 51, 52, 53, 54, 55, 56, 57, 97, 98, 99, 100, 101, 102] }, .int .u8 (c : Nat)] w fun e w' => e = .returned (.int .i64 v) ∧ w' = w := by
  cases h : hokB c with
  | true => exact ⟨(hv c : Nat), fun _ => rfl, (by intro h2; cases h2), index_yes hc h⟩
  | false => exact ⟨-1, (by intro h2; cases h2), fun _ => rfl, index_no hc h⟩
/-- The bytes that letters say, two by two. -/
def unh (M : List Nat) : Nat → List Nat
  | 0 => []
  | k + 1 => unh M k ++ [16 * hv (nth M (2 * k)) + hv (nth M (2 * k + 1))]
theorem unh_length (M : List Nat) : ∀ k, (unh M k).length = k
  | 0 => rfl
  | k + 1 => by rw [unh, List.length_append, unh_length M k]; rfl
def UnhOk (M : List Nat) : Prop := M.length % 2 = 0 ∧ ∀ j, j < M.length → hokB (nth M j) = true
instance (M : List Nat) : Decidable (UnhOk M) := by unfold UnhOk; infer_instance
def unhL (M : List Nat) : List Nat := if UnhOk M then unh M (M.length / 2) else []
def unhE (M : List Nat) : Int := if UnhOk M then 0 else 5
def UnhEnd (M : List Nat) (w : World) (e : Ending) (w' : World) : Prop :=
  ∃ A n c, e = .returned (.tuple #[.slice A n c, .int .i64 (unhE M)]) ∧ n ≤ c ∧ Own w (.slice A n c) n (unhL M) w'
theorem unhEnd_no {M : List Nat} (h : ¬ UnhOk M) {w w' : World} (hb : Below w.heap.size w w') : UnhEnd M w (.returned (.tuple #[.slice none 0 0, .int .i64 5])) w' :=
  ⟨none, 0, 0, by rw [unhE, if_neg h], Nat.le_refl _, by rw [unhL, if_neg h]; exact ⟨World.ownsRow_nil _ _ _ _, allB_nil, hb⟩⟩
theorem hex_or (p q : Nat) (hp : p < 16) (hq : q < 16) : bits BinOp.or IntKind.i64 ((p : Int) * 16) (q : Int) = ((16 * p + q : Nat) : Int) := by
  have : ∀ x y : Fin 16, bits BinOp.or IntKind.i64 (((x.val : Nat) : Int) * 16) ((y.val : Nat) : Int) = ((16 * x.val + y.val : Nat) : Int) := by decide +kernel
  exact this ⟨p, hp⟩ ⟨q, hq⟩

theorem hok_next {M : List Nat} {k x y : Nat} (h : ∀ j, j < 2 * k → hokB (nth M j) = true) (hx : nth M (2 * k) = x) (hy : nth M (2 * k + 1) = y) (bx : hokB x = true) (by_ : hokB y = true) : ∀ j, j < 2 * (k + 1) → hokB (nth M j) = true := fun j hj => by
  rcases (by omega : j < 2 * k ∨ j = 2 * k ∨ j = 2 * k + 1) with h1 | rfl | rfl
  · exact h j h1
  · rw [hx]; exact bx
  · rw [hy]; exact by_

set_option maxRecDepth 100000 in
set_option maxHeartbeats 4000000 in
theorem unhex_any (s : ByteArray) (w : World) (hs : s.size ≤ 549755813888) : Calls Try.prog 22 #[.string s] w (UnhEnd (strL s) w) := by
  have hl := strL_length s
  obtain ⟨M, HM⟩ : ∃ M, Hid (strL s = M) := ⟨_, rfl⟩
  have hbM : AllB M := by rw [← HM.out]; exact strL_byt s
  have HBM := Lib.hid hbM
  rw [HM.out] at hl ⊢
  have HL := Lib.hid hl
  clear hbM
  by_cases hodd : s.size % 2 = 0
  case neg =>
    have no : ¬ UnhOk M := fun h => hodd (by rw [← hl]; exact h.1)
    have NO := Lib.hid no
    have t1 : ((s.size : Int).tmod 2 != 0) = true := by rw [bne_iff_ne, Int.tmod_eq_emod_of_nonneg (by omega)]; omega
    have t2 : ((s.size : Int) % 2 != 0) = true := by rw [bne_iff_ne]; omega
    clear no hl hodd
    go_enter Try.func22, Try.ntmps22
    go_wp2_with fail
    go_ret2
    exact unhEnd_no NO.out (Below.refl _ _)
  case pos =>
    have t1 : ((s.size : Int).tmod 2 != 0) = false := by rw [bne_eq_false_iff_eq, Int.tmod_eq_emod_of_nonneg (by omega)]; omega
    have t2 : ((s.size : Int) % 2 != 0) = false := by rw [bne_eq_false_iff_eq]; omega
    obtain ⟨m, hm⟩ : ∃ m, s.size = 2 * m := ⟨s.size / 2, by omega⟩
    have e1 : (s.size : Int) / 2 = (m : Int) := by omega
    have HSZ := Lib.hid hm
    have hmk := run_make_bytes 0 m 0 m rfl rfl (by omega) (by omega)
    clear hl hodd hm
    go_enter Try.func22, Try.ntmps22
    go_wp2_with fail
    go_loopw [4, 5] (fun v i wr => ∃ k : Nat, k ≤ m ∧ i = .int .i64 (2 * (k : Int)) ∧ (∀ j, j < 2 * k → hokB (nth M j) = true) ∧ Own w v k (unh M k) wr) (fun _ i _ => 2 * m - (intOf i).toNat)
    case atStart => exact ⟨0, by omega, rfl, fun j hj => absurd hj (by omega), Own.made (Below.refl _ _) _ _ (by unfold maxLen; omega) (by simp [vals])⟩
    case round =>
      obtain ⟨k, hk, rfl, hok, O⟩ := hrel
      obtain ⟨B, d, rfl, _⟩ := O.shape
      have HO := Lib.hid O
      have HOK := Lib.hid hok
      clear O hok
      by_cases hlt : k < m
      · have t3 : decide (2 * (k : Int) < (s.size : Int)) = true := decide_eq_true (by have := HSZ.out; omega)
        have i1 := index_str s (2 * k) (by have := HSZ.out; omega) (2 * (k : Int)) (by omega)
        have i2 := index_str s (2 * k + 1) (by have := HSZ.out; omega) (2 * (k : Int) + 1) (by omega)
        rw [HM.out] at i1 i2
        have W0 : IntKind.i64.wrap (2 * (k : Int) + 1) = 2 * (k : Int) + 1 := IntWalk.i64_in _ (by omega)
        have x8 := nth_lt HBM.out (2 * k)
        have y8 := nth_lt HBM.out (2 * k + 1)
        have hun : unh M (k + 1) = unh M k ++ [16 * hv (nth M (2 * k)) + hv (nth M (2 * k + 1))] := rfl
        obtain ⟨x, hx⟩ : ∃ x, nth M (2 * k) = x := ⟨_, rfl⟩
        obtain ⟨y, hy⟩ : ∃ y, nth M (2 * k + 1) = y := ⟨_, rfl⟩
        rw [hx] at i1 x8 hun
        rw [hy] at i2 y8 hun
        have HX := Lib.hid hx
        have HY := Lib.hid hy
        have HUN := Lib.hid hun
        clear hx hy hun
        obtain ⟨u, hu1, hu0, CU⟩ := index_v x8
        obtain ⟨v, hv1, hv0, CV⟩ := index_v y8
        have HCU := Lib.hid CU
        have HCV := Lib.hid CV
        clear CU CV
        by_cases both : hokB x = true ∧ hokB y = true
        · obtain ⟨bx, by'⟩ := both
          have eu := hu1 bx
          have ev := hv1 by'
          have hp := hv_lt bx
          have hq := hv_lt by'
          obtain ⟨p, hpe⟩ : ∃ p, hv x = p := ⟨_, rfl⟩
          obtain ⟨q, hqe⟩ : ∃ q, hv y = q := ⟨_, rfl⟩
          rw [hpe] at eu hp
          rw [hqe] at ev hq
          subst eu ev
          have HPQ : Hid (16 * hv x + hv y = 16 * p + q) := Lib.hid (by rw [hpe, hqe])
          have HBX := Lib.hid bx
          have HBY := Lib.hid by'
          obtain ⟨z, hz⟩ : ∃ z, 16 * p + q = z := ⟨_, rfl⟩
          have e2 := hex_or p q hp hq
          rw [hz] at e2 HPQ
          have z8 : z < 256 := by omega
          have W1 : IntKind.u8.wrap (z : Int) = (z : Int) := by rw [IntKind.wrap_u8]; omega
          clear hu1 hu0 hv1 hv0 bx by' hpe hqe hz
          go_wp2_with fail
          go_region_law (first | (go_simp; with_reducible refine (HCU.out _).mono ?_; rintro e w' ⟨rfl, rfl⟩; go_simp) | (go_simp; with_reducible refine (HCV.out _).mono ?_; rintro e w' ⟨rfl, rfl⟩; go_simp))
          all_goals go_wp2_with (at_builtin; refine wpList_app rfl _ _ rfl rfl (HO.out.allocD _) rfl (Bs.lit1D _ z8) (by omega) ?_; intro A' c' w' h1 h2 _; have H2 := Lib.hid h2; clear h1 h2)
          all_goals exact ⟨⟨k + 1, by omega, by go_num, hok_next HOK.out HX.out HY.out HBX.out HBY.out, by rw [HUN.out, HPQ.out]; exact H2.out⟩, by simp [intOf]; omega⟩
        · have no : ¬ UnhOk M := fun h => both ⟨by rw [← HX.out]; exact h.2 _ (by have := HL.out; have := HSZ.out; omega), by rw [← HY.out]; exact h.2 _ (by have := HL.out; have := HSZ.out; omega)⟩
          have NO := Lib.hid no
          have huv : u < 0 ∨ v < 0 := by
            cases hbx : hokB x with
            | false => left; rw [hu0 hbx]; decide
            | true =>
              cases hby : hokB y with
              | false => right; rw [hv0 hby]; decide
              | true => exact absurd ⟨hbx, hby⟩ both
          clear hu1 hu0 hv1 hv0 both no
          by_cases hu : u < 0
          · have t4 : decide (u < 0) = true := decide_eq_true hu
            clear huv
            go_wp2_with fail
            go_region_law (first | (go_simp; with_reducible refine (HCU.out _).mono ?_; rintro e w' ⟨rfl, rfl⟩; go_simp) | (go_simp; with_reducible refine (HCV.out _).mono ?_; rintro e w' ⟨rfl, rfl⟩; go_simp))
            all_goals go_wp2_with fail
            all_goals go_ret2
            all_goals exact unhEnd_no NO.out HO.out.bel.drew
          · have t4 : decide (u < 0) = false := decide_eq_false hu
            have t5 : decide (v < 0) = true := decide_eq_true (by omega)
            clear huv
            go_wp2_with fail
            go_region_law (first | (go_simp; with_reducible refine (HCU.out _).mono ?_; rintro e w' ⟨rfl, rfl⟩; go_simp) | (go_simp; with_reducible refine (HCV.out _).mono ?_; rintro e w' ⟨rfl, rfl⟩; go_simp))
            all_goals go_wp2_with fail
            all_goals go_ret2
            all_goals exact unhEnd_no NO.out HO.out.bel.drew
      · obtain rfl : k = m := by omega
        have t3 : decide (2 * (k : Int) < (s.size : Int)) = false := decide_eq_false (by have := HSZ.out; omega)
        have hyes : UnhOk M := ⟨by have := HL.out; have := HSZ.out; omega, fun j hj => HOK.out j (by have := HL.out; have := HSZ.out; omega)⟩
        have YES := Lib.hid hyes
        clear hyes
        go_wp2_with fail
        go_ret2
        exact ⟨B, k, d, by rw [unhE, if_pos YES.out]; rfl, by assumption, by rw [unhL, if_pos YES.out, show M.length / 2 = k by have := HL.out; have := HSZ.out; omega]; exact HO.out⟩
end Go.Proofs.Ytcnmplkljpkheaa
