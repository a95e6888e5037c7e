/- The bytes of a string. No condition. -/
import Derived.Test.YtjcphpmlekfhdaaGreatDoorGf
import Derived.Lib.ConvBytes
import Derived.Test.YtjcphpmlekfhdaaGreatDoorGk
import Derived.Test.YtjcphpmlekfhdaaGreatDoorOpn
import Derived.Deep.OwnRows
import Derived.Lib.SmallJoins

namespace Go.Proofs.YtjcphpmlekfhdaaGreatDoor
open Go.RowKit

theorem below_bytes (w : World) (s : ByteArray) : Below w.heap.size w (Lib.bytesWorld w 5 s) :=
  ⟨rfl, rfl, rfl, by rw [Lib.bytesWorld_size]; omega, fun i hi => Lib.bytesWorld_at_old w _ s i hi⟩
/-- The bytes of a string. -/
theorem run_bytes {L : List Nat} (h : AllB L) (hl : L.length ≤ 1099511627776) (w : World) : ∃ c w', (convert 9 40 (.string (strB L))).run Tryz.prog w = .ok (.slice (some ⟨w.heap.size, 0, none⟩) L.length c) w' ∧ L.length ≤ c ∧ c ≤ 9223372036854775807 ∧ w.heap.size < w'.heap.size ∧ Bs w' (some ⟨w.heap.size, 0, none⟩) L.length L ∧ Below w.heap.size w w' := by
  have r := Lib.run_convert_string_bytes (P := Tryz.prog) w 9 40 5 (strB L) Tryz.underlying9 Tryz.underlying40 Tryz.underlying5
  rw [strB_size] at r
  have hge := grownCap_ge w L.length 0 5
  have hle := grownCap_le_maxLen w L.length 0 5 (by unfold maxLen; omega)
  unfold maxLen at hle
  refine ⟨_, _, r, hge, by omega, by rw [Lib.bytesWorld_size]; exact Nat.lt_succ_self _, ⟨rfl, h, fun _ => ⟨_, rfl, by rw [Lib.bytesWorld_size]; exact Nat.lt_succ_self _, fun k hk => ?_⟩⟩, below_bytes w _⟩
  have ea : (⟨w.heap.size, 0, none⟩ : Addr).add k = ⟨w.heap.size, k, none⟩ := by unfold Addr.add; split <;> simp_all
  rw [ea, Lib.bytesWorld_cell w _ _ k (by rw [strB_size]; exact hk)]
  have e : (strB L).data.toList.getD k 0 = UInt8.ofNat (nth L k) := by
    simp [strB, nth, List.getD, hk]
  rw [e, UInt8.toNat_ofNat', Nat.mod_eq_of_lt (nth_lt h k)]
end Go.Proofs.YtjcphpmlekfhdaaGreatDoor

/- Words of the laws: bytes of literals, rows of them, a vault beside them. No condition. -/
namespace Go.Proofs.YtjcphpmlekfhdaaGreatDoor
open Go.RowKit

/-- What is told of bytes just made. -/
def NewB (w : World) (n : Nat) (L : List Nat) (e : Ending) (W : World) : Prop := ∃ A c, e = .returned (.slice A n c) ∧ n ≤ c ∧ c ≤ 9223372036854775807 ∧ Bs W A n L ∧ Below w.heap.size w W ∧ ∀ a, A = some a → w.heap.size ≤ a.block ∧ a.block < W.heap.size
set_option maxRecDepth 100000 in
set_option maxHeartbeats 1000000 in
theorem b_ab (w : World) : Calls Tryz.prog 15 #[.string ⟨#[97, 98]⟩] w (NewB w 2 [97, 98]) := by
  obtain ⟨c, w', r, h1, h2, h3, B, G⟩ := run_bytes (L := [97, 98]) (fun x hx => by simp at hx; omega) (by decide) w
  have k0 : (convert 9 40 (.string ⟨#[97, 98]⟩)).run Tryz.prog w = .ok (.slice (some ⟨w.heap.size, 0, none⟩) 2 c) w' := r
  have HB := Lib.hid B
  have HG := Lib.hid G
  clear r B G
  go_enter Tryz.func15, Tryz.ntmps15
  go_wp2_with fail
  go_ret
  exact ⟨_, c, rfl, h1, h2, HB.out, HG.out, fun a e => by injection e with e; subst e; exact ⟨Nat.le_refl _, h3⟩⟩
set_option maxRecDepth 100000 in
set_option maxHeartbeats 1000000 in
theorem b_c (w : World) : Calls Tryz.prog 15 #[.string ⟨#[99]⟩] w (NewB w 1 [99]) := by
  obtain ⟨c, w', r, h1, h2, h3, B, G⟩ := run_bytes (L := [99]) (fun x hx => by simp at hx; omega) (by decide) w
  have k0 : (convert 9 40 (.string ⟨#[99]⟩)).run Tryz.prog w = .ok (.slice (some ⟨w.heap.size, 0, none⟩) 1 c) w' := r
  have HB := Lib.hid B
  have HG := Lib.hid G
  clear r B G
  go_enter Tryz.func15, Tryz.ntmps15
  go_wp2_with fail
  go_ret
  exact ⟨_, c, rfl, h1, h2, HB.out, HG.out, fun a e => by injection e with e; subst e; exact ⟨Nat.le_refl _, h3⟩⟩
set_option maxRecDepth 100000 in
set_option maxHeartbeats 1000000 in
theorem b_d (w : World) : Calls Tryz.prog 15 #[.string ⟨#[100]⟩] w (NewB w 1 [100]) := by
  obtain ⟨c, w', r, h1, h2, h3, B, G⟩ := run_bytes (L := [100]) (fun x hx => by simp at hx; omega) (by decide) w
  have k0 : (convert 9 40 (.string ⟨#[100]⟩)).run Tryz.prog w = .ok (.slice (some ⟨w.heap.size, 0, none⟩) 1 c) w' := r
  have HB := Lib.hid B
  have HG := Lib.hid G
  clear r B G
  go_enter Tryz.func15, Tryz.ntmps15
  go_wp2_with fail
  go_ret
  exact ⟨_, c, rfl, h1, h2, HB.out, HG.out, fun a e => by injection e with e; subst e; exact ⟨Nat.le_refl _, h3⟩⟩
set_option maxRecDepth 100000 in
set_option maxHeartbeats 1000000 in
theorem b_e (w : World) : Calls Tryz.prog 15 #[.string ⟨#[101]⟩] w (NewB w 1 [101]) := by
  obtain ⟨c, w', r, h1, h2, h3, B, G⟩ := run_bytes (L := [101]) (fun x hx => by simp at hx; omega) (by decide) w
  have k0 : (convert 9 40 (.string ⟨#[101]⟩)).run Tryz.prog w = .ok (.slice (some ⟨w.heap.size, 0, none⟩) 1 c) w' := r
  have HB := Lib.hid B
  have HG := Lib.hid G
  clear r B G
  go_enter Tryz.func15, Tryz.ntmps15
  go_wp2_with fail
  go_ret
  exact ⟨_, c, rfl, h1, h2, HB.out, HG.out, fun a e => by injection e with e; subst e; exact ⟨Nat.le_refl _, h3⟩⟩
set_option maxRecDepth 100000 in
set_option maxHeartbeats 1000000 in
theorem b_f (w : World) : Calls Tryz.prog 15 #[.string ⟨#[102]⟩] w (NewB w 1 [102]) := by
  obtain ⟨c, w', r, h1, h2, h3, B, G⟩ := run_bytes (L := [102]) (fun x hx => by simp at hx; omega) (by decide) w
  have k0 : (convert 9 40 (.string ⟨#[102]⟩)).run Tryz.prog w = .ok (.slice (some ⟨w.heap.size, 0, none⟩) 1 c) w' := r
  have HB := Lib.hid B
  have HG := Lib.hid G
  clear r B G
  go_enter Tryz.func15, Tryz.ntmps15
  go_wp2_with fail
  go_ret
  exact ⟨_, c, rfl, h1, h2, HB.out, HG.out, fun a e => by injection e with e; subst e; exact ⟨Nat.le_refl _, h3⟩⟩
set_option maxRecDepth 100000 in
set_option maxHeartbeats 1000000 in
theorem b_a (w : World) : Calls Tryz.prog 15 #[.string ⟨#[97]⟩] w (NewB w 1 [97]) := by
  obtain ⟨c, w', r, h1, h2, h3, B, G⟩ := run_bytes (L := [97]) (fun x hx => by simp at hx; omega) (by decide) w
  have k0 : (convert 9 40 (.string ⟨#[97]⟩)).run Tryz.prog w = .ok (.slice (some ⟨w.heap.size, 0, none⟩) 1 c) w' := r
  have HB := Lib.hid B
  have HG := Lib.hid G
  clear r B G
  go_enter Tryz.func15, Tryz.ntmps15
  go_wp2_with fail
  go_ret
  exact ⟨_, c, rfl, h1, h2, HB.out, HG.out, fun a e => by injection e with e; subst e; exact ⟨Nat.le_refl _, h3⟩⟩
set_option maxRecDepth 100000 in
set_option maxHeartbeats 1000000 in
theorem b_on (w : World) : Calls Tryz.prog 15 #[.string ⟨#[111, 110]⟩] w (NewB w 2 [111, 110]) := by
  obtain ⟨c, w', r, h1, h2, h3, B, G⟩ := run_bytes (L := [111, 110]) (fun x hx => by simp at hx; omega) (by decide) w
  have k0 : (convert 9 40 (.string ⟨#[111, 110]⟩)).run Tryz.prog w = .ok (.slice (some ⟨w.heap.size, 0, none⟩) 2 c) w' := r
  have HB := Lib.hid B
  have HG := Lib.hid G
  clear r B G
  go_enter Tryz.func15, Tryz.ntmps15
  go_wp2_with fail
  go_ret
  exact ⟨_, c, rfl, h1, h2, HB.out, HG.out, fun a e => by injection e with e; subst e; exact ⟨Nat.le_refl _, h3⟩⟩
/-- A row just made, of slices of bytes that lie in P. -/
theorem lit_one {w : World} {P : Nat → Prop} {q : Nat} {T : TypeId} {A1 : Option Addr} {n1 c1 : Nat} {L : List Nat} (R : Ro w q T [.slice A1 n1 c1]) (hq : P q) (h1 : Bs w A1 n1 L) (k1 : n1 ≤ c1 ∧ n1 ≤ 140737488351232) (m1 : c1 ≤ 9223372036854775807) (p1 : ∀ a, A1 = some a → P a.block) : Rows w P 1 ByR (some ⟨q, 0, none⟩) 1 [L] := by
  have e1 := h1.len
  subst e1
  exact ⟨rfl, fun _ => ⟨q, 0, _, rfl, R.lt, hq, fun j v hj => by rw [Nat.zero_add]; exact R.cell hj, Each.one rfl ⟨A1, c1, rfl, k1, m1, h1, fun _ a e => p1 a e⟩⟩⟩
theorem lit_2 {w : World} {P : Nat → Prop} {q : Nat} {T : TypeId} {A1 A2 : Option Addr} {n1 n2 c1 c2 : Nat} {L M : List Nat} (R : Ro w q T [.slice A1 n1 c1, .slice A2 n2 c2]) (hq : P q) (h1 : Bs w A1 n1 L) (k1 : n1 ≤ c1 ∧ n1 ≤ 140737488351232) (m1 : c1 ≤ 9223372036854775807) (p1 : ∀ a, A1 = some a → P a.block) (h2 : Bs w A2 n2 M) (k2 : n2 ≤ c2 ∧ n2 ≤ 140737488351232) (m2 : c2 ≤ 9223372036854775807) (p2 : ∀ a, A2 = some a → P a.block) : Rows w P 1 ByR (some ⟨q, 0, none⟩) 2 [L, M] := by
  have e1 := h1.len
  have e2 := h2.len
  subst e1 e2
  refine ⟨rfl, fun _ => ⟨q, 0, _, rfl, R.lt, hq, fun j v hj => by rw [Nat.zero_add]; exact R.cell hj, ?_⟩⟩
  have := Each.cons (sz := 1) (R := ByR w P) (V := [.slice A1 L.length c1]) (cs := [.slice A2 M.length c2]) (x := L) (l := [M]) rfl ⟨A1, c1, rfl, k1, m1, h1, fun _ a e => p1 a e⟩ (Each.one rfl ⟨A2, c2, rfl, k2, m2, h2, fun _ a e => p2 a e⟩)
  exact this
section
variable {w0 w w1 : World} {d v file gen count : Nat} {X Y : Nat → Prop} {S : Dk} {failed : Bool}
theorem Vs.wide (V : Vs w0 d v X S file gen count failed w) (b : Below w.heap.size w w1) (h : ∀ k, Y k → X k ∨ (w.heap.size ≤ k ∧ k < w1.heap.size)) (hv : Y v) : Vs w0 d v Y S file gen count failed w1 :=
  ⟨V.dp.wide (Kept.of_below b) (V.dp.bel.trans (b.mono V.dp.bel.size)) h, hv, V.vt.later b, V.low⟩
theorem Vs.narrow (V : Vs w0 d v X S file gen count failed w) (h : ∀ k, Y k → X k) (hv : Y v) : Vs w0 d v Y S file gen count failed w := ⟨V.dp.narrow h, hv, V.vt, V.low⟩
end
end Go.Proofs.YtjcphpmlekfhdaaGreatDoor

/- The chapter's example. Condition: the tables lie as laid. -/
namespace Go.Proofs.YtjcphpmlekfhdaaGreatDoor
open Go.RowKit

section
variable {S : Dk} {f g : Nat} {l L : List (List Nat)}
theorem add_live (A : Alive S f g l) (hL : longS L = false) (hfu : S.fuse = -1) (hroom : wideS L ≤ S.room) : ∃ T, addT false f g l.length L S = (0, T, (l ++ L).length, false) ∧ Alive T f g (l ++ L) ∧ T.most = S.most ∧ T.fuse = -1 := by
  have hm : mayN false L = 0 := by unfold mayN; rw [hL]; rfl
  unfold addT
  rw [if_pos hm]
  rcases alive_add A hL with ⟨_, h⟩ | ⟨T, h1, h2, _, h4, h5⟩ | ⟨T, _, _, h3, _⟩
  · omega
  · exact ⟨T, h1, h2, h4, h5 hfu⟩
  · exact absurd hfu h3
theorem compact_live (A : Alive S f g l) (hL : longS L = false) (hfu : S.fuse = -1) (hg : g < 4611686018427387904) (hn : L.length < 4294967296) (hroom : 44 + wideS L ≤ S.room) : ∃ T, compactT false f g l.length L S = (0, T, 1 - f, g + 1, L.length, false) ∧ Alive T (1 - f) (g + 1) L ∧ T.most = S.most ∧ T.fuse = -1 := by
  have hm : mayN false L = 0 := by unfold mayN; rw [hL]; rfl
  unfold compactT
  rw [if_pos hm]
  rcases alive_compact A hL hn with ⟨_, h⟩ | ⟨_, h⟩ | ⟨T, h1, h2, _, h4, h5, _⟩ | ⟨T, _, _, h3, _⟩
  · omega
  · omega
  · exact ⟨T, h1, h2, h4, h5 hfu⟩
  · exact absurd hfu h3
theorem open_live (A : Alive S f g l) (O : S.Ok) (hfu : S.fuse = -1) : ∃ T, openS S = (0, T, f, g, l) ∧ Alive T f g l ∧ T.most = S.most ∧ T.fuse = -1 := by
  rcases alive_open A O with ⟨T, a, b, c, e⟩ | ⟨T, a, b, c, _⟩
  · exact ⟨T, a, b, c, e hfu⟩
  · exact absurd hfu c

/-- The last Open of the example: what is kept is all of the last record. -/
theorem last_open (A : Alive S f g l) (hL : longS L = false) {T7 T8 : Dk} (e1 : T7.at f = (S.at f).add (.w (framesS g l.length L))) (e2 : T7.at (1 - f) = S.at (1 - f)) {p : List Int} (hp : (wideS L : Int) ≤ pick p f) (O : T8.Ok) (on : T8.off = false) (hfu : T8.fuse = -1)
    (h : ∀ i, i ≤ 1 → (T8.at i).loose = [] ∧ Out (T7.at i) (T8.at i).sure ∧ T8.at i = (T7.at i).lose (pick p i)) :
    ∃ U, openS T8 = (0, U, f, g, l ++ L) ∧ Alive U f g (l ++ L) ∧ U.most = T8.most ∧ U.fuse = -1 := by
  have hf := A.hf
  have hr := longS_none hL
  have ho : 1 - f ≤ 1 := by omega
  have hu : usum (T7.at f).loose = wideS L := by
    rw [e1]
    show usum ((S.at f).loose ++ [Chg.w (framesS g l.length L)]) = _
    rw [A.lo]
    show (framesS g l.length L).length + 0 = _
    rw [framesS_len]; rfl
  have ea : (T8.at f).at = (S.at f).sure ++ framesS g l.length L := by
    rw [(h f hf).2.2, lose_great (by rw [hu]; exact hp), e1, Fl.at_add, A.at_]
    rfl
  have es := fl_at (h f hf).1
  have fm := A.fm.more hr
  rw [← ea, es] at fm
  have hby : AllB (T8.at f).sure := by
    have e : f = 0 ∨ f = 1 := by omega
    rcases e with rfl | rfl
    · exact O.bf.1
    · exact O.bg.1
  have low' : ∀ L', Out (T8.at (1 - f)) L' → ∀ z, soundS (1 - f) L' = some z → z.1 < g := fun L' o z hz => by
    rw [out_sure (h _ ho).1 o] at hz
    have o2 := (h _ ho).2.1
    rw [e2] at o2
    exact A.low _ o2 z hz
  have hb : bestS (fun i => (T8.at i).at) 2 = some (f, g, l ++ L, (T8.at f).sure.length) := by
    refine best_of hf A.fm.2.1 ?_ fun y hy => low' _ (out_at _) y hy
    show soundS f (T8.at f).at = _
    rw [es]
    exact fm.sound
  rcases open_gen on hby hb (h f hf).1 low' with ⟨U, a, b, c, e⟩ | ⟨U, a, b, c, _⟩
  · exact ⟨U, a, b, c, e hfu⟩
  · exact absurd hfu c
/-- The example's states, from the crash on. -/
def ChainC (T9 : Dk) : Prop := ∃ T10, openS T9 = (0, T10, 0, 2, [[100], [101]])
def ChainB (T4 : Dk) : Prop := ∃ T5 T6 T7 T8 T9, openS T4 = (0, T5, 1, 1, [[97, 98], [99]]) ∧ T5.cnt ≤ 1000 ∧ compactT false 1 1 2 [[100]] T5 = (0, T6, 0, 2, 1, false) ∧ T6.cnt ≤ 1000 ∧ T6.setFuse 1 = (0, T7) ∧ T7.cnt ≤ 1000 ∧ addT false 0 2 1 [[101]] T7 = (8, T8, 1, true) ∧ T8.cnt ≤ 1000 ∧ addT true 0 2 1 [[102]] T8 = (3, T8, 1, true) ∧ T8.goOff = (8, T8) ∧ T8.goOn [37, 0] = (0, T9) ∧ T9.cnt ≤ 1000 ∧ (T9.Ok → ChainC T9)
theorem chainB {T2 T3 T4 : Dk} (A : Alive T2 1 1 [[97, 98], [99]]) (m2 : T2.most = 1000) (h3 : T3 = { T2 with off := true }) (h4 : T3.goOn [] = (0, T4)) (O : T4.Ok) : ChainB T4 := by
  have o3 : T3.off = true := by rw [h3]
  obtain ⟨T4', e4, on4, fu4, mo4, c4, at4⟩ := on_spec o3 []
  rw [h4] at e4
  injection e4 with _ e4
  subst e4
  have at4' : ∀ i, i ≤ 1 → (T4.at i).loose = [] ∧ Out (T2.at i) (T4.at i).sure := fun i hi => ⟨(at4 i hi).1, by
    have := (at4 i hi).2.1
    rw [h3] at this
    exact this⟩
  obtain ⟨T5, e5, A5, m5, f5⟩ := A.again O on4 fu4 at4'
  have c5 := cnt_openS T4
  rw [e5] at c5
  dsimp only at c5
  have mo3 : T3.most = 1000 := by rw [h3]; exact m2
  have r5 := A5.room
  rw [m5, mo4, mo3] at r5
  have r5' : T5.room = 881 := r5
  obtain ⟨T6, e6, A6, m6, f6⟩ := compact_live (L := [[100]]) A5 (by decide) f5 (by decide) (by decide) (by rw [r5']; decide)
  have c6 : (compactT false 1 1 2 [[100]] T5).2.1.cnt ≤ T5.cnt + 4 := by
    unfold compactT
    split
    · exact cnt_compactS 1 1 2 [[100]] T5
    · exact Nat.le_add_right _ _
  have e6' : compactT false 1 1 2 [[100]] T5 = (0, T6, 0, 2, 1, false) := e6
  have A6' : Alive T6 0 2 [[100]] := A6
  rw [e6'] at c6
  dsimp only at c6
  obtain ⟨T7, e7, A7, f7, m7, c7⟩ := A6'.fuse 1
  have r7 := A7.room
  rw [m7, m6, m5, mo4, mo3] at r7
  have r7' : T7.room = 919 := r7
  obtain ⟨T8, e8, o8, m8, a8, b8⟩ := alive_add1 (L := [[101]]) A7 (by decide) (by decide) (by rw [r7']; decide) f7
  have e8' : addS 0 2 1 [[101]] T7 = (8, T8, 1, true) := e8
  have c8 := cnt_addS 0 2 1 [[101]] T7
  rw [e8'] at c8
  dsimp only at c8
  obtain ⟨T9, e9, on9, fu9, mo9, c9, at9⟩ := on_spec o8 [37, 0]
  refine ⟨T5, T6, T7, T8, T9, e5, by omega, e6', by omega, e7, by omega, ?_, by omega, ?_, ?_, e9, by omega, fun O9 => ?_⟩
  · unfold addT
    rw [if_pos (by decide)]
    exact e8'
  · unfold addT
    rw [if_neg (by decide)]
    have : mayN true [[102]] = 3 := by decide
    rw [this]
  · unfold Dk.goOff
    rw [if_pos o8]
  · obtain ⟨U, e, _⟩ := last_open (L := [[101]]) A7 (by decide) a8 b8 (p := [37, 0]) (by decide) O9 on9 fu9 at9
    exact ⟨U, e⟩
theorem chainA : ∃ T1 T2 T3 T4, openS (newD 1000) = (0, T1, 1, 1, []) ∧ T1.cnt ≤ 1000 ∧ addT false 1 1 0 [[97, 98], [99]] T1 = (0, T2, 2, false) ∧ T2.cnt ≤ 1000 ∧ T2.room = 881 ∧ T2.goOff = (0, T3) ∧ T3.cnt ≤ 1000 ∧ T3.goOn [] = (0, T4) ∧ T4.cnt ≤ 1000 ∧ (T4.Ok → ChainB T4) := by
  obtain ⟨T1, e1, A1, m1, f1⟩ := new_open (m := 1000) (by decide)
  have c1 := cnt_openS (newD 1000)
  rw [e1] at c1
  have c1' : T1.cnt ≤ 0 + 4 := c1
  have r1 := A1.room
  rw [m1] at r1
  have r1' : T1.room = 956 := r1
  obtain ⟨T2, e2, A2, m2, f2⟩ := add_live (L := [[97, 98], [99]]) A1 (by decide) f1 (by rw [r1']; decide)
  have c2 : (addT false 1 1 0 [[97, 98], [99]] T1).2.1.cnt ≤ T1.cnt + 4 := by
    unfold addT
    split
    · exact cnt_addS 1 1 0 _ T1
    · exact Nat.le_add_right _ _
  have e2' : addT false 1 1 0 [[97, 98], [99]] T1 = (0, T2, 2, false) := e2
  rw [e2'] at c2
  dsimp only at c2
  have A2' : Alive T2 1 1 [[97, 98], [99]] := A2
  have r2 := A2'.room
  rw [m2, m1] at r2
  have r2' : T2.room = 881 := r2
  have o3 : ({ T2 with off := true } : Dk).off = true := rfl
  obtain ⟨T4, e4, on4, fu4, mo4, c4, at4⟩ := on_spec o3 []
  exact ⟨T1, T2, { T2 with off := true }, T4, e1, by omega, e2', by omega, r2', A2'.off, (by show T2.cnt ≤ 1000; omega), e4, by omega, fun O => chainB A2' (m2.trans m1) rfl e4 O⟩
end
end Go.Proofs.YtjcphpmlekfhdaaGreatDoor

/- The chapter's example, walked. Condition: the tables lie as laid. -/
namespace Go.Proofs.YtjcphpmlekfhdaaGreatDoor
open Go.RowKit

theorem on_p2 {w0 w : World} {d : Nat} {X : Nat → Prop} {S S' : Dk} (D : Dp w0 d X S w) (hn : S.cnt ≤ 1073741823) {a b : Int} (ha : -9223372036854775808 ≤ a ∧ a ≤ 9223372036854775807) (hb : -9223372036854775808 ≤ b ∧ b ≤ 9223372036854775807) {x : Int} (hx : (S.goOn [a, b]).1 = x) (hs : (S.goOn [a, b]).2 = S') (T : TypeId) (fr : Nat × Nat) :
    Calls Tryz.prog 18 #[.pointer (some ⟨d, 0, none⟩), .slice (some ⟨w.heap.size, 0, none⟩) 2 2] (w.alloc (.cells #[.int .i64 a, .int .i64 b] T fr)) (StepP w0 d X w x S') := by
  obtain ⟨F, D, hX⟩ := D
  subst hx hs
  have hF : ¬ F w.heap.size := fun h => by
    obtain ⟨_, _, _, _, _, _, _, _, hL⟩ := D
    have := (hL _ h).2
    omega
  have g : Below w.heap.size w (w.alloc (.cells #[.int .i64 a, .int .i64 b] T fr)) := (Below.refl _ _).alloc (Nat.le_refl _) _
  refine (on_any (n := 2) (c := 2) (D.later g) hn (p := [a, b]) ⟨rfl, fun y hy => ?_, fun k hk => ⟨_, rfl, by simp, ?_⟩⟩ (fun _ a e => (by injection e with e; subst e; exact hF)) (Nat.le_refl _) (by decide)).mono fun e W ⟨h1, h2⟩ => ⟨h1, (h2.p fun b hb => ⟨(hX b hb).1, Nat.lt_of_lt_of_le (hX b hb).2 g.size⟩).1, ?_⟩
  · rcases List.mem_cons.1 hy with e | hy
    · subst e; exact ha
    · rw [List.mem_singleton] at hy; subst hy; exact hb
  · have hh := heap_alloc_new w (.cells #[.int .i64 a, .int .i64 b] T fr)
    have e : k = 0 ∨ k = 1 := by omega
    unfold World.cell?
    rcases e with rfl | rfl
    · simp only [Addr.add, if_pos, hh]
      rfl
    · have hne : ¬ ((1 : Nat) = 0) := by decide
      simp only [Addr.add, if_neg hne, hh]
      rfl
  · exact (Kept.of_below g).trans' (h2.p fun b hb => ⟨(hX b hb).1, Nat.lt_of_lt_of_le (hX b hb).2 g.size⟩).2
theorem below_trn {w w1 w2 : World} (g1 : Below w.heap.size w w1) (g2 : Below w1.heap.size w1 w2) : Below w.heap.size w w2 := g1.trans (g2.mono g1.size)
/-- Two rows just made of bytes just made. -/
theorem new_2 {w w1 w2 : World} {T : TypeId} {A1 A2 : Option Addr} {n1 n2 c1 c2 : Nat} {L M : List Nat} (l1 : n1 ≤ c1) (m1 : c1 ≤ 9223372036854775807) (B1 : Bs w1 A1 n1 L) (p1 : ∀ a, A1 = some a → w.heap.size ≤ a.block ∧ a.block < w1.heap.size) (g2 : Below w1.heap.size w1 w2) (l2 : n2 ≤ c2) (m2 : c2 ≤ 9223372036854775807) (B2 : Bs w2 A2 n2 M) (p2 : ∀ a, A2 = some a → w1.heap.size ≤ a.block ∧ a.block < w2.heap.size) (hs : w.heap.size ≤ w1.heap.size) (h1 : n1 ≤ 140737488351232) (h2 : n2 ≤ 140737488351232) :
    Rows (w2.alloc (.cells #[.slice A1 n1 c1, .slice A2 n2 c2] T)) (fun k => w.heap.size ≤ k ∧ k < (w2.alloc (.cells #[.slice A1 n1 c1, .slice A2 n2 c2] T)).heap.size) 1 ByR (some ⟨w2.heap.size, 0, none⟩) 2 [L, M] := by
  have b3 : Below w2.heap.size w2 (w2.alloc (.cells #[.slice A1 n1 c1, .slice A2 n2 c2] T)) := (Below.refl _ _).alloc (Nat.le_refl _) _
  have s2 := g2.size
  refine lit_2 (Ro.new w2 T [.slice A1 n1 c1, .slice A2 n2 c2]) ⟨by omega, by rw [World.size_alloc]; omega⟩ ((B1.later g2).later b3) ⟨l1, h1⟩ m1 (fun a e => ?_) (B2.later b3) ⟨l2, h2⟩ m2 fun a e => ?_
  · have := p1 a e
    rw [World.size_alloc]
    omega
  · have := p2 a e
    rw [World.size_alloc]
    omega
theorem new_1 {w w1 : World} {T : TypeId} {A1 : Option Addr} {n1 c1 : Nat} {L : List Nat} (l1 : n1 ≤ c1) (m1 : c1 ≤ 9223372036854775807) (B1 : Bs w1 A1 n1 L) (p1 : ∀ a, A1 = some a → w.heap.size ≤ a.block ∧ a.block < w1.heap.size) (hs : w.heap.size ≤ w1.heap.size) (h1 : n1 ≤ 140737488351232) :
    Rows (w1.alloc (.cells #[.slice A1 n1 c1] T)) (fun k => w.heap.size ≤ k ∧ k < (w1.alloc (.cells #[.slice A1 n1 c1] T)).heap.size) 1 ByR (some ⟨w1.heap.size, 0, none⟩) 1 [L] := by
  have b3 : Below w1.heap.size w1 (w1.alloc (.cells #[.slice A1 n1 c1] T)) := (Below.refl _ _).alloc (Nat.le_refl _) _
  refine lit_one (Ro.new w1 T [.slice A1 n1 c1]) ⟨by omega, by rw [World.size_alloc]; omega⟩ (B1.later b3) ⟨l1, h1⟩ m1 fun a e => ?_
  have := p1 a e
  rw [World.size_alloc]
  omega
set_option maxRecDepth 100000 in
set_option maxHeartbeats 16000000 in
theorem works_any {w : World} (hLd : Laid w) : Calls Tryz.prog 5 #[] w fun e W => e = .returned (.bool true) ∧ Below w.heap.size w W := by
  obtain ⟨T1, T2, T3, T4, e1, c1, e2, c2, r2, e3, c3, e4, c4, hB⟩ := chainA
  have H1 := Lib.hid e1
  have H2 := Lib.hid e2
  have H3 := Lib.hid e3
  have H4 := Lib.hid e4
  have HB := Lib.hid hB
  have HL := Lib.hid hLd
  have HN := Lib.hid (new_p (w0 := w) (w := w) (X := fun _ => False) (Below.refl _ _) (fun _ h => h.elim) (m := 1000) (by decide) (by decide))
  clear hLd e1 e2 e3 e4 hB
  go_enter Tryz.func5, Tryz.ntmps5
  go_wp2_with fail
  refine (HN.out).mono ?_
  rintro e W1 ⟨d, rfl, hd1, D1', b1⟩
  have HD := Lib.hid hd1
  have D1 := Lib.hid D1'
  clear hd1 D1' b1 HN
  go_wp2_with fail
  have ho := open_any HL.out D1.out (fun _ h => h.elim) (Nat.le_trans (Nat.le_of_eq (rfl : (newD 1000).cnt = 0)) (by decide))
  rw [H1.out] at ho
  dsimp only at ho
  refine ho.mono ?_
  clear ho
  rintro e W2 h
  rcases h with ⟨h, _⟩ | ⟨_, v, r, Y, rfl, hv, hV, ⟨A, c, hr, hc, hR⟩, hY, hD, hK⟩
  · exact absurd rfl h
  have hr' : r = .slice A 0 c := hr
  subst hr'
  have V2 : Hid (Vs w d v (fun b => b = v) T1 1 1 0 false W2) := Lib.hid ⟨hD.narrow fun b h => .inr (.inl h), rfl, hV, by have := D1.out.lt; omega⟩
  clear hr hv hV hc hR hY hD hK D1 H1
  go_wp2_with fail
  refine (gen_any _ V2.out.vt).mono ?_
  rintro e W' ⟨rfl, ew⟩
  subst ew
  go_wp2_with fail
  refine (len_any _ V2.out.vt).mono ?_
  rintro e W' ⟨rfl, ew⟩
  subst ew
  go_wp2_with fail
  refine (b_ab _).mono ?_
  rintro e W3 ⟨A1, k1, rfl, l1, m1, B1, g1, p1⟩
  go_wp2_with fail
  refine (b_c _).mono ?_
  rintro e W4 ⟨A2, k2, rfl, l2, m2, B2, g2, p2⟩
  go_wp2_with fail
  have b3 := below_trn g1 g2
  have R := new_2 (T := 40) l1 m1 B1 p1 g2 l2 m2 B2 p2 g1.size (by decide) (by decide)
  have V3 := (V2.out.later b3).later ((Below.refl _ _).alloc (Nat.le_refl _) (.cells #[.slice A1 2 k1, .slice A2 1 k2] 40))
  have ha := add_s (A := some ⟨W4.heap.size, 0, none⟩) (n := 2) (c := 2) HL.out V3 (Rows.weak byM R fun _ _ _ => trivial) (by decide) (by decide) (by decide) (by decide) (by omega)
  rw [H2.out] at ha
  dsimp only at ha
  refine ha.mono ?_
  clear ha R V3
  rintro e W5 ⟨rfl, V5', _⟩
  have V5 := Lib.hid V5'
  clear V5' V2 b3 g1 g2 p1 p2 B1 B2 l1 l2 m1 m2 H2
  go_wp2_with fail
  refine (len_any _ V5.out.vt).mono ?_
  rintro e W' ⟨rfl, ew⟩
  subst ew
  go_wp2_with fail
  refine (room_p V5.out.dp r2).mono ?_
  rintro e W6 ⟨rfl, D6', b6⟩
  have D6 := Lib.hid D6'
  have HV := Lib.hid (V5.out.low)
  clear D6' b6 V5 r2
  go_wp2_with fail
  refine (off_p D6.out (x := 0) (S' := T3) (by rw [H3.out]) (by rw [H3.out])).mono ?_
  rintro e W7 ⟨rfl, D7', _⟩
  have D7 := Lib.hid D7'
  clear D7' D6 H3
  go_wp2_with fail
  refine (on_p D7.out (by omega) (Zs.nil _ none) (fun h => absurd h (by omega)) (Nat.le_refl _) (by decide) (x := 0) (S' := T4) (by rw [H4.out]) (by rw [H4.out])).mono ?_
  rintro e W8 ⟨rfl, D8', _⟩
  have D8 := Lib.hid (D8'.narrow (Y := fun _ => False) (fun _ h => h.elim))
  obtain ⟨T5, T6, T7, T8, T9, e5, c5, e6, c6, e7, c7, e8, c8, e9, e10, e11, c11, hC⟩ := HB.out D8'.ok
  have H5 := Lib.hid e5
  have H6 := Lib.hid e6
  have H7 := Lib.hid e7
  have H8 := Lib.hid e8
  have H9 := Lib.hid e9
  have H10 := Lib.hid e10
  have H11 := Lib.hid e11
  have HC := Lib.hid hC
  clear D8' D7 H4 HB e5 e6 e7 e8 e9 e10 e11 hC
  go_wp2_with fail
  have ho := open_any HL.out D8.out (fun _ h => h.elim) (by omega)
  rw [H5.out] at ho
  dsimp only at ho
  refine ho.mono ?_
  clear ho
  rintro e W9 h
  rcases h with ⟨h, _⟩ | ⟨_, v2, r, Y2, rfl, hv, hV, ⟨A9, c9, hr, hc, hR⟩, hY, hD, hK⟩
  · exact absurd rfl h
  have hr' : r = .slice A9 2 c9 := hr
  subst hr'
  have V9 : Hid (Vs w d v2 (fun b => b = v2) T5 1 1 2 false W9) := Lib.hid ⟨hD.narrow fun b h => .inr (.inl h), rfl, hV, by have := D8.out.lt; omega⟩
  have HR : Hid (Rows W9 anyP 1 ByR A9 2 [[97, 98], [99]]) := Lib.hid (Rows.weak byM hR fun _ _ _ => trivial)
  clear hr hv hV hc hR hY hD hK D8 H5 HV
  go_wp2_with fail
  refine (b_ab _).mono ?_
  rintro e W10 ⟨A1, k1, rfl, l1, m1, B1, g1, p1⟩
  go_wp2_with fail
  refine (b_c _).mono ?_
  rintro e W11 ⟨A2, k2, rfl, l2, m2, B2, g2, p2⟩
  go_wp2_with fail
  have b3 := below_trn g1 g2
  have b4 : Below W9.heap.size W9 (W11.alloc (.cells #[.slice A1 2 k1, .slice A2 1 k2] 40)) := b3.alloc b3.size _
  have R := new_2 (T := 40) l1 m1 B1 p1 g2 l2 m2 B2 p2 g1.size (by decide) (by decide)
  refine (same_any _ (Rows.later byM HR.out b4) (Rows.weak byM R fun _ _ _ => trivial) (by decide)).mono ?_
  rintro e W12 ⟨rfl, b5⟩
  have V12 := Lib.hid ((V9.out.later b4).later b5)
  clear R b5 b4 b3 g1 g2 p1 p2 B1 B2 l1 l2 m1 m2 V9 HR
  have t1 : decide (([[97, 98], [99]] : List (List Nat)) = [[97, 98], [99]]) = true := by decide
  rw [t1]
  go_wp2_with fail
  refine (b_d _).mono ?_
  rintro e W13 ⟨A1, k1, rfl, l1, m1, B1, g1, p1⟩
  go_wp2_with fail
  have b4 : Below W12.heap.size W12 (W13.alloc (.cells #[.slice A1 1 k1] 40)) := g1.alloc g1.size _
  have R := new_1 (T := 40) l1 m1 B1 p1 g1.size (by decide)
  obtain ⟨X2, hX2⟩ : ∃ X2 : Nat → Prop, ∀ k, X2 k ↔ (k = v2 ∨ (W12.heap.size ≤ k ∧ k < (W13.alloc (.cells #[.slice A1 1 k1] 40)).heap.size)) := ⟨_, fun _ => Iff.rfl⟩
  have V13 : Vs w d v2 X2 T5 1 1 2 false (W13.alloc (.cells #[.slice A1 1 k1] 40)) := V12.out.wide b4 (fun k hk => (hX2 k).1 hk) ((hX2 v2).2 (.inl rfl))
  have hc := compact_s (A := some ⟨W13.heap.size, 0, none⟩) (n := 1) (c := 1) HL.out V13 (Rows.weak byM R fun k hk _ => ⟨(hX2 k).2 (.inr hk), by have := V12.out.vt.lt; omega⟩) (by decide) (by decide) (by decide) (by decide) (by omega)
  rw [H6.out] at hc
  dsimp only at hc
  refine hc.mono ?_
  clear hc R b4
  rintro e W14 ⟨rfl, V14', _⟩
  have V14 : Hid (Vs w d v2 (fun b => b = v2) T6 0 2 1 false W14) := Lib.hid (V14'.narrow (fun k hk => (hX2 k).2 (.inl hk)) rfl)
  clear V14' V13 hX2 V12 g1 p1 B1 l1 m1 H6
  go_wp2_with fail
  refine (gen_any _ V14.out.vt).mono ?_
  rintro e W' ⟨rfl, ew⟩
  subst ew
  go_wp2_with fail
  refine (len_any _ V14.out.vt).mono ?_
  rintro e W' ⟨rfl, ew⟩
  subst ew
  go_wp2_with fail
  refine (fuse_p V14.out.dp 1 (by decide) (x := 0) (S' := T7) (by rw [H7.out]) (by rw [H7.out])).mono ?_
  rintro e W15 ⟨rfl, D15, K15⟩
  have V15 : Hid (Vs w d v2 (fun b => b = v2) T7 0 2 1 false W15) := Lib.hid ⟨D15, rfl, (K15.2 v2 rfl V14.out.vt.lt).trans V14.out.vt, V14.out.low⟩
  clear D15 K15 V14 H7
  go_wp2_with fail
  refine (b_e _).mono ?_
  rintro e W16 ⟨A1, k1, rfl, l1, m1, B1, g1, p1⟩
  go_wp2_with fail
  have b4 : Below W15.heap.size W15 (W16.alloc (.cells #[.slice A1 1 k1] 40)) := g1.alloc g1.size _
  have R := new_1 (T := 40) l1 m1 B1 p1 g1.size (by decide)
  have ha := add_s (A := some ⟨W16.heap.size, 0, none⟩) (n := 1) (c := 1) HL.out (V15.out.later b4) (Rows.weak byM R fun _ _ _ => trivial) (by decide) (by decide) (by decide) (by decide) (by omega)
  rw [H8.out] at ha
  dsimp only at ha
  refine ha.mono ?_
  clear ha R b4
  rintro e W17 ⟨rfl, V17', _⟩
  have V17 := Lib.hid V17'
  clear V17' V15 g1 p1 B1 l1 m1 H8
  go_wp2_with fail
  refine (b_f _).mono ?_
  rintro e W18 ⟨A1, k1, rfl, l1, m1, B1, g1, p1⟩
  go_wp2_with fail
  have b4 : Below W17.heap.size W17 (W18.alloc (.cells #[.slice A1 1 k1] 40)) := g1.alloc g1.size _
  have R := new_1 (T := 40) l1 m1 B1 p1 g1.size (by decide)
  have ha := add_s (A := some ⟨W18.heap.size, 0, none⟩) (n := 1) (c := 1) HL.out (V17.out.later b4) (Rows.weak byM R fun _ _ _ => trivial) (by decide) (by decide) (by decide) (by decide) (by omega)
  rw [H9.out] at ha
  dsimp only at ha
  refine ha.mono ?_
  clear ha R b4
  rintro e W19 ⟨rfl, V19', _⟩
  have D19 := Lib.hid V19'.dp
  clear V19' V17 g1 p1 B1 l1 m1 H9
  go_wp2_with fail
  refine (off_p D19.out (x := 8) (S' := T8) (by rw [H10.out]) (by rw [H10.out])).mono ?_
  rintro e W20 ⟨rfl, D20', _⟩
  have D20 := Lib.hid D20'
  clear D20' D19 H10
  go_wp2_with fail
  refine (on_p2 D20.out (by omega) (by decide) (by decide) (x := 0) (S' := T9) (by rw [H11.out]) (by rw [H11.out]) _ _).mono ?_
  rintro e W21 ⟨rfl, D21', _⟩
  have D21 := Lib.hid (D21'.narrow (Y := fun _ => False) (fun _ h => h.elim))
  obtain ⟨T10, e12⟩ := HC.out D21'.ok
  have H12 := Lib.hid e12
  clear D21' D20 H11 HC e12
  go_wp2_with fail
  have ho := open_any HL.out D21.out (fun _ h => h.elim) (by omega)
  rw [H12.out] at ho
  dsimp only at ho
  refine ho.mono ?_
  clear ho
  rintro e W22 h
  rcases h with ⟨h, _⟩ | ⟨_, v3, r, Y3, rfl, hv, hV, ⟨A22, c22, hr, hc, hR⟩, hY, hD, hK⟩
  · exact absurd rfl h
  have hr' : r = .slice A22 2 c22 := hr
  subst hr'
  have HBL := Lib.hid hD.bel
  have HR : Hid (Rows W22 anyP 1 ByR A22 2 [[100], [101]]) := Lib.hid (Rows.weak byM hR fun _ _ _ => trivial)
  clear hr hv hV hc hR hY hD hK D21 H12
  go_wp2_with fail
  refine (b_d _).mono ?_
  rintro e W23 ⟨A1, k1, rfl, l1, m1, B1, g1, p1⟩
  go_wp2_with fail
  refine (b_e _).mono ?_
  rintro e W24 ⟨A2, k2, rfl, l2, m2, B2, g2, p2⟩
  go_wp2_with fail
  have b3 := below_trn g1 g2
  have b4 : Below W22.heap.size W22 (W24.alloc (.cells #[.slice A1 1 k1, .slice A2 1 k2] 40)) := b3.alloc b3.size _
  have R := new_2 (T := 40) l1 m1 B1 p1 g2 l2 m2 B2 p2 g1.size (by decide) (by decide)
  refine (same_any _ (Rows.later byM HR.out b4) (Rows.weak byM R fun _ _ _ => trivial) (by decide)).mono ?_
  rintro e W25 ⟨rfl, b5⟩
  have HB := Lib.hid (HBL.out.trans ((below_trn b4 b5).mono HBL.out.size))
  clear R b5 b4 b3 g1 g2 p1 p2 B1 B2 l1 l2 m1 m2 HBL HR
  have t2 : decide (([[100], [101]] : List (List Nat)) = [[100], [101]]) = true := by decide
  rw [t2]
  go_wp2_with fail
  go_ret
  exact ⟨rfl, HB.out⟩
end Go.Proofs.YtjcphpmlekfhdaaGreatDoor
