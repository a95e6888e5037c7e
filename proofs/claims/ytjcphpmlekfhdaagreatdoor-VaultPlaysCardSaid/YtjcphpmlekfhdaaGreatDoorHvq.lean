/- heavy: whether calls are too many. No condition but the machine's reach. -/
import Derived.Test.YtjcphpmlekfhdaaGreatDoorStq
namespace Go.Proofs.YtjcphpmlekfhdaaGreatDoor
open Go.RowKit

def rwt (l : List (List Nat)) : Nat := (l.map fun r => 16 + r.length).sum
def kwt (x : CallD) : Nat := 32 + x.s.b.length + x.s.p.length + rwt x.l
def kwts (l : List CallD) : Nat := (l.map kwt).sum
theorem rwt_next {l : List (List Nat)} {k : Nat} (h : k < l.length) : rwt (l.take (k + 1)) = rwt (l.take k) + 16 + l[k].length := by
  unfold rwt
  rw [List.take_add_one, List.getElem?_eq_getElem h, Option.toList_some, List.map_append, List.sum_append]
  simp
  omega
theorem rwt_take (l : List (List Nat)) (k : Nat) : rwt (l.take k) ≤ rwt l := by
  have e : rwt l = rwt (l.take k) + rwt (l.drop k) := by
    unfold rwt
    rw [← List.sum_append, ← List.map_append, List.take_append_drop]
  omega
theorem kwts_next {l : List CallD} {k : Nat} (h : k < l.length) : kwts (l.take (k + 1)) = kwts (l.take k) + kwt l[k] := by
  unfold kwts
  rw [List.take_add_one, List.getElem?_eq_getElem h, Option.toList_some, List.map_append, List.sum_append]
  simp
theorem kwts_take (l : List CallD) (k : Nat) : kwts (l.take k) ≤ kwts l := by
  have e : kwts l = kwts (l.take k) + kwts (l.drop k) := by
    unfold kwts
    rw [← List.sum_append, ← List.map_append, List.take_append_drop]
  omega
/-- A call's cells. -/
theorem call_at {w : World} {P : Nat → Prop} {b o n : Nat} {l : List CallD} (h : Rows w P 7 CallR (some ⟨b, o, none⟩) n l) {k : Nat} (hk : k < l.length) : b < w.heap.size ∧ ∃ A c B cb Q cq,
    w.cell? ⟨b, o + k * 7, none⟩ = some (.int .u8 (l[k].k : Int)) ∧ w.cell? ⟨b, o + k * 7 + 1, none⟩ = some (.slice A l[k].l.length c) ∧ w.cell? ⟨b, o + k * 7 + 2 + 2, none⟩ = some (.int .i64 l[k].s.n) ∧ w.cell? ⟨b, o + k * 7 + 2 + 3, none⟩ = some (.slice B l[k].s.b.length cb) ∧ w.cell? ⟨b, o + k * 7 + 2 + 4, none⟩ = some (.slice Q l[k].s.p.length cq) ∧
    l[k].k < 256 ∧ (l[k].l.length ≤ c ∧ l[k].l.length ≤ 140737488351232) ∧ c ≤ 9223372036854775807 ∧ Rows w P 1 ByR A l[k].l.length l[k].l ∧ l[k].s.Ok ∧ (l[k].s.b.length ≤ cb ∧ l[k].s.b.length ≤ 140737488351232) ∧ (l[k].s.p.length ≤ cq ∧ l[k].s.p.length ≤ 140737488351232) ∧ cq ≤ 9223372036854775807 ∧ ZsP w P Q l[k].s.p.length l[k].s.p := by
  obtain ⟨hb, _, V, _, hr, A, c, V2, rfl, h1, h2, h3, h4, B, cb, Q, cq, rfl, k1, k2, k3, k4, k5, k6, k7⟩ := h.at_ hk
  exact ⟨hb, A, c, B, cb, Q, cq, hr 0 _ rfl, hr 1 _ rfl, hr 4 _ rfl, hr 5 _ rfl, hr 6 _ rfl, h1, h2, h3, h4, k1, k2, k5, k6, k7⟩
set_option maxRecDepth 100000 in
set_option maxHeartbeats 4000000 in
theorem heavy_any {A : Option Addr} {n c : Nat} {l : List CallD} (w : World) (hn : n ≤ 140737488351232) (hL : Rows w anyP 7 CallR A n l) :
    Calls Tryz.prog 4 #[.slice A n c] w fun e w' => e = .returned (.bool (decide (16384 < kwts l))) ∧ Below w.heap.size w w' := by
  have HL := Lib.hid hL
  have hln := hL.len
  clear hL
  go_enter Tryz.func4, Tryz.ntmps4
  go_wp2_with fail
  go_loopw [3, 4] (fun v i wr => ∃ k z : Nat, k ≤ n ∧ v = .int .i64 (z : Nat) ∧ i = .int .i64 (k : Nat) ∧ (z = kwts (l.take k) ∨ (16384 < z ∧ z ≤ kwts l)) ∧ z ≤ 900000000000000 ∧ Below w.heap.size w wr) (fun _ i _ => n - (intOf i).toNat)
  case atStart => exact ⟨0, 0, Nat.zero_le _, rfl, rfl, .inl rfl, by omega, Below.refl _ _⟩
  case round =>
    obtain ⟨k, z, hk, rfl, rfl, hz, hzb, bel⟩ := hrel
    have HZ := Lib.hid hz
    have HB := Lib.hid bel
    clear hz bel
    by_cases hlt : k < n
    · have t1 : decide ((k : Int) < (n : Int)) = true := decide_eq_true (by omega)
      by_cases h2 : z ≤ 16384
      · have t2 : decide ((z : Int) ≤ 16384) = true := decide_eq_true (by omega)
        obtain ⟨b, o, rfl⟩ := rows_some HL.out (by omega)
        have hkl : k < l.length := by omega
        have HQ := Lib.hid ((HL.out.later callM HB.out).later callM (Below.refl _ _).drew)
        obtain ⟨_, A1, c1, B, cb, Q, cq, _, q1, _, q3, q4, _, ⟨_, l0⟩, _, hrow, _, ⟨_, l1⟩, ⟨_, l2⟩, _⟩ := call_at HQ.out hkl
        have HN := Lib.hid (kwts_next hkl)
        obtain ⟨X, hX⟩ : ∃ X, l[k] = X := ⟨_, rfl⟩
        rw [hX] at q1 q3 q4 l0 l1 l2 hrow
        have HW : Hid (kwts (l.take (k + 1)) = z + (32 + X.s.b.length + X.s.p.length + rwt X.l)) := Lib.hid (by
          rw [HN.out, hX]
          rcases HZ.out with e | e
          · rw [e]; rfl
          · omega)
        obtain ⟨x, hx⟩ : ∃ x, X.s.b.length = x := ⟨_, rfl⟩
        obtain ⟨y, hy⟩ : ∃ y, X.s.p.length = y := ⟨_, rfl⟩
        rw [hx, hy] at HW
        rw [hx] at q3 l1
        rw [hy] at q4 l2
        obtain ⟨m, hm⟩ : ∃ m, X.l.length = m := ⟨_, rfl⟩
        rw [hm] at q1 l0 hrow
        have HR := Lib.hid hrow
        have hml := hm
        clear hx hy hX hm hrow HN
        go_wp2_with fail
        go_region
        go_wp2_with fail
        have zb : z + 32 + x + y ≤ 300000000000000 := by omega
        go_loopw [3, 5] (fun v i wq => ∃ q zz : Nat, q ≤ m ∧ v = .int .i64 (zz : Nat) ∧ i = .int .i64 (q : Nat) ∧ zz = z + 32 + x + y + rwt (X.l.take q) ∧ zz ≤ 600000000000000 ∧ wq = wr.drew) (fun _ i _ => m - (intOf i).toNat)
        case atStart => exact ⟨0, z + 32 + x + y, Nat.zero_le _, by go_num, rfl, rfl, by omega, rfl⟩
        case round =>
          obtain ⟨q, zz, hqm, rfl, rfl, hzz, hzzb, hwq⟩ := hrel
          subst hwq
          have HZZ := Lib.hid hzz
          clear hzz
          by_cases hqlt : q < m
          · have s1 : decide (q < m) = true := decide_eq_true hqlt
            have s1' : decide ((q : Int) < (m : Int)) = true := decide_eq_true (by omega)
            by_cases h3 : zz ≤ 16384
            · have s2 : decide ((zz : Int) ≤ 16384) = true := decide_eq_true (by omega)
              obtain ⟨b2, o2, rfl⟩ := rows_some HR.out (by omega)
              have hql : q < X.l.length := by omega
              obtain ⟨_, B3, c3, hc3, _, hl3, _, _⟩ := by_at HR.out hql
              have HN2 := Lib.hid (rwt_next hql)
              obtain ⟨u, hu⟩ : ∃ u, X.l[q].length = u := ⟨_, rfl⟩
              rw [hu] at hc3 hl3 HN2
              clear hu
              go_wp2_with fail
              go_roundw
              case rel => exact ⟨q + 1, zz + 16 + u, by omega, by go_num, by go_num, by rw [HN2.out]; have := HZZ.out; omega, by omega, trivial⟩
              case measure => simp [intOf]; omega
            · have s2 : decide ((zz : Int) ≤ 16384) = false := decide_eq_false (by omega)
              have HIN : Hid (16384 < zz ∧ zz ≤ kwts l) := Lib.hid ⟨by omega, by have := HZZ.out; have := rwt_take X.l q; have := HW.out; have := kwts_take l (k + 1); omega⟩
              go_wp2_with fail
              go_roundw
              case rel => exact ⟨k + 1, zz, by omega, by go_num, by go_num, .inr HIN.out, by omega, HB.out.drew⟩
              case measure => simp [intOf]; omega
          · have s1 : decide (q < m) = false := decide_eq_false hqlt
            have s1' : decide ((q : Int) < (m : Int)) = false := decide_eq_false (by omega)
            have HIN : Hid (zz = kwts (l.take (k + 1))) := Lib.hid (by
              have e : X.l.take q = X.l := List.take_of_length_le (by omega)
              have h1 := HZZ.out
              have h2 := HW.out
              rw [e] at h1
              omega)
            go_wp2_with fail
            go_roundw
            case rel => exact ⟨k + 1, zz, by omega, by go_num, by go_num, .inl HIN.out, by omega, HB.out.drew⟩
            case measure => simp [intOf]; omega
      · have t2 : decide ((z : Int) ≤ 16384) = false := decide_eq_false (by omega)
        have t3 : decide ((16384 : Int) < (z : Int)) = true := decide_eq_true (by omega)
        go_wp2_with fail
        go_ret
        exact ⟨by rw [decide_eq_true (show 16384 < kwts l by have := kwts_take l k; have := HZ.out; omega)]; rfl, HB.out⟩
    · have t1 : decide ((k : Int) < (n : Int)) = false := decide_eq_false (by omega)
      have HE : Hid (z = kwts l ∨ (16384 < z ∧ z ≤ kwts l)) := Lib.hid (by
        have := HZ.out
        rwa [List.take_of_length_le (by omega)] at this)
      by_cases h2 : 16384 < z
      · have t3 : decide ((16384 : Int) < (z : Int)) = true := decide_eq_true (by omega)
        go_wp2_with fail
        go_ret
        exact ⟨by rw [decide_eq_true (show 16384 < kwts l by have := HE.out; omega)]; rfl, HB.out⟩
      · have t3 : decide ((16384 : Int) < (z : Int)) = false := decide_eq_false (by omega)
        go_wp2_with fail
        go_ret
        exact ⟨by rw [decide_eq_false (show ¬ 16384 < kwts l by have := HE.out; omega)]; rfl, HB.out⟩
end Go.Proofs.YtjcphpmlekfhdaaGreatDoor
