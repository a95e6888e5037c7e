/- Both vaults beside both disks. Condition: the tables lie as laid. -/
import Derived.Test.YtjcphpmlekfhdaaGreatDoorDoS
import Derived.Test.YtjcphpmlekfhdaaGreatDoorRvO
import Derived.Test.YtjcphpmlekfhdaaGreatDoorRvD
import Derived.Test.YtjcphpmlekfhdaaGreatDoorGk
import Derived.Test.YtjcphpmlekfhdaaGreatDoorOpn
namespace Go.Proofs.YtjcphpmlekfhdaaGreatDoor
open Go.RowKit

section
variable {w0 w W : World} {d r v file gen count n c k : Nat} {failed : Bool} {X Y : Nat → Prop} {S T' : Dk} {A : Option Addr} {l : List (List Nat)}
/-- The program's disk, with the reference's blocks beside it. -/
theorem Two.dp (T : Two w0 d r X S T' w) : ∃ G, Rsk w0 r G T' w ∧ (∀ b, G b → b < w.heap.size ∧ ¬ X b) ∧ Dp w0 d (fun b => X b ∨ G b) S w := by
  obtain ⟨F, G, D, K, ap, hX⟩ := T
  have hK : ∀ b, G b → b < w.heap.size := by
    obtain ⟨_, _, _, _, hl⟩ := K
    exact fun b hb => (hl b hb).2
  exact ⟨G, K, fun b hb => ⟨hK b hb, fun hx => (hX b hx).2.1 hb⟩, F, D, fun b hb => hb.elim (fun h => ⟨(hX b h).1, (hX b h).2.2⟩) fun h => ⟨fun hf => ap b hf h, hK b h⟩⟩
theorem Two.ofDp {S2 : Dk} {G : Nat → Prop} (K : Rsk w0 r G T' w) (hG : ∀ b, G b → b < w.heap.size) (D : Dp w0 d (fun b => Y b ∨ G b) S2 W) (hk : Kept G w W) (hY : ∀ b, Y b → ¬ G b) : Two w0 d r Y S2 T' W := by
  obtain ⟨F, D, h⟩ := D
  exact ⟨F, G, D, K.keep hk D.bel, fun b hf hg => (h b (.inr hg)).1 hf, fun b hb => ⟨(h b (.inl hb)).1, hY b hb, (h b (.inl hb)).2⟩⟩
theorem Two.rp (T : Two w0 d r X S T' w) : ∃ F, Dsk w0 d F S w ∧ (∀ b, F b → b < w.heap.size ∧ ¬ X b) ∧ Rp w0 r (fun b => X b ∨ F b) T' w := by
  obtain ⟨F, G, D, K, ap, hX⟩ := T
  have hD : ∀ b, F b → b < w.heap.size := by
    obtain ⟨_, _, _, _, _, _, _, _, hl⟩ := D
    exact fun b hb => (hl b hb).2
  exact ⟨F, D, fun b hb => ⟨hD b hb, fun hx => (hX b hx).1 hb⟩, G, K, fun b hb => hb.elim (fun h => ⟨(hX b h).2.1, (hX b h).2.2⟩) fun h => ⟨fun hg => ap b h hg, hD b h⟩⟩
theorem Two.ofRp {S2 : Dk} {F : Nat → Prop} (D : Dsk w0 d F S w) (K : Rp w0 r (fun b => Y b ∨ F b) S2 W) (hk : Kept F w W) (hY : ∀ b, Y b → ¬ F b) : Two w0 d r Y S S2 W := by
  obtain ⟨G, K, h⟩ := K
  exact ⟨F, G, D.keep hk K.bel, K, fun b hf hg => (h b (.inr hf)).1 hg, fun b hb => ⟨hY b hb, (h b (.inl hb)).1, (h b (.inl hb)).2⟩⟩
theorem Two.inn (T : Two w0 d r X S T' w) : ∀ b, X b → b < w.heap.size := by
  obtain ⟨F, G, D, K, ap, hX⟩ := T
  exact fun b hb => (hX b hb).2.2
theorem Two.ok (T : Two w0 d r X S T' w) : S.Ok := by obtain ⟨F, G, D, K, ap, hX⟩ := T; exact D.ok
/-- Something of X is written. -/
theorem Two.put (T : Two w0 d r X S T' w) (g : Kept (fun b => ¬ X b) w W) (hb : Below w0.heap.size w0 W) : Two w0 d r X S T' W := by
  obtain ⟨F, G, D, K, ap, hX⟩ := T
  exact ⟨F, G, D.keep (g.weak fun b hf _ hx => (hX b hx).1 hf) hb, K.keep (g.weak fun b hg _ hx => (hX b hx).2.1 hg) hb, ap, fun b hb => ⟨(hX b hb).1, (hX b hb).2.1, Nat.lt_of_lt_of_le (hX b hb).2.2 g.size⟩⟩
/-- The program's Add. -/
theorem vadd_two (hLd : Laid w0) (T : Two w0 d r X S T' w) (xv : X v) (lo : w0.heap.size ≤ v) (V : Ro w v 90 (vtV d file gen count failed)) (hR : Rows w anyP 1 ByR A n l) (hn : n ≤ 1099511627776) (hg : gen < 18446744073709551616) (hk : count ≤ 4611686018427387904) (hw : wideS l ≤ 549755813888) (hcnt : S.cnt ≤ 1000000000) :
    Calls Tryz.prog 14 #[.pointer (some ⟨v, 0, none⟩), .slice A n c] w fun e W => e = .returned (.int .i64 (addT failed file gen count l S).1) ∧ Two w0 d r X (addT failed file gen count l S).2.1 T' W ∧ Ro W v 90 (vtV d file gen (addT failed file gen count l S).2.2.1 (addT failed file gen count l S).2.2.2) ∧ Kept (fun b => X b ∧ b ≠ v) w W := by
  obtain ⟨G, K, hG, D⟩ := T.dp
  refine (add_s (c := c) hLd (⟨D, .inl xv, V, lo⟩ : Vs w0 d v (fun b => X b ∨ G b) S file gen count failed w) hR hn hg hk hw hcnt).mono ?_
  rintro e W ⟨h1, V2, K2⟩
  exact ⟨h1, Two.ofDp K (fun b hb => (hG b hb).1) V2.dp (K2.weak fun b hb _ => ⟨.inr hb, fun e => (hG b hb).2 (by rw [e]; exact xv)⟩) (fun b hb hg2 => (hG b hg2).2 hb), V2.vt, K2.weak fun b hb _ => ⟨.inl hb.1, hb.2⟩⟩
/-- The program's Compact. -/
theorem vcompact_two (hLd : Laid w0) (T : Two w0 d r X S T' w) (xv : X v) (lo : w0.heap.size ≤ v) (V : Ro w v 90 (vtV d file gen count failed)) (hR : Rows w (fun b => X b ∧ b ≠ v) 1 ByR A n l) (hn : n ≤ 1073741824) (hf : file ≤ 1) (hg : gen < 18446744073709551616) (hw : wideS l ≤ 1073741824) (hcnt : S.cnt ≤ 1000000000) :
    Calls Tryz.prog 20 #[.pointer (some ⟨v, 0, none⟩), .slice A n c] w fun e W => e = .returned (.int .i64 (compactT failed file gen count l S).1) ∧ Two w0 d r X (compactT failed file gen count l S).2.1 T' W ∧ Ro W v 90 (vtV d (compactT failed file gen count l S).2.2.1 (compactT failed file gen count l S).2.2.2.1 (compactT failed file gen count l S).2.2.2.2.1 (compactT failed file gen count l S).2.2.2.2.2) ∧ Kept (fun b => X b ∧ b ≠ v) w W := by
  obtain ⟨G, K, hG, D⟩ := T.dp
  refine (compact_s (c := c) hLd (⟨D, .inl xv, V, lo⟩ : Vs w0 d v (fun b => X b ∨ G b) S file gen count failed w) (Rows.weak byM hR fun b h _ => ⟨.inl h.1, h.2⟩) hn hf hg hw hcnt).mono ?_
  rintro e W ⟨h1, V2, K2⟩
  exact ⟨h1, Two.ofDp K (fun b hb => (hG b hb).1) V2.dp (K2.weak fun b hb _ => ⟨.inr hb, fun e => (hG b hb).2 (by rw [e]; exact xv)⟩) (fun b hb hg2 => (hG b hg2).2 hb), V2.vt, K2.weak fun b hb _ => ⟨.inl hb.1, hb.2⟩⟩
/-- The reference's Add. -/
theorem radd_two (T : Two w0 d r X T' S w) (lt : Ltk k S) (hk : k ≤ 10) (xv : X v) (lo : w0.heap.size ≤ v) (V : Ro w v 78 (rvV r file gen count failed)) (hR : Rows w anyP 1 ByR A n l) (hn : n ≤ 16384) (hw : wideS l ≤ 1048576) (hg : gen < 18446744073709551616) (hc : count ≤ 4611686018427387904) :
    Calls Tryz.prog 28 #[.pointer (some ⟨v, 0, none⟩), .slice A n c] w fun e W => e = .returned (.int .i64 (addT failed file gen count l S).1) ∧ Two w0 d r X T' (addT failed file gen count l S).2.1 W ∧ Ro W v 78 (rvV r file gen (addT failed file gen count l S).2.2.1 (addT failed file gen count l S).2.2.2) ∧ Kept (fun b => X b ∧ b ≠ v) w W := by
  obtain ⟨F, D, hF, K⟩ := T.rp
  refine (radd_any (c := c) K lt hk (.inl xv) lo V hR hn hw hg hc).mono ?_
  rintro e W ⟨h1, K2, V2, K3⟩
  exact ⟨h1, Two.ofRp D K2 (K3.weak fun b hb _ => ⟨.inr hb, fun e => (hF b hb).2 (by rw [e]; exact xv)⟩) (fun b hb hf2 => (hF b hf2).2 hb), V2, K3.weak fun b hb _ => ⟨.inl hb.1, hb.2⟩⟩
theorem rcompact_two (T : Two w0 d r X T' S w) (lt : Ltk k S) (hk : k ≤ 10) (xv : X v) (lo : w0.heap.size ≤ v) (V : Ro w v 78 (rvV r file gen count failed)) (hR : Rows w anyP 1 ByR A n l) (hn : n ≤ 16384) (hw : wideS l ≤ 1048576) (hg : gen < 18446744073709551616) (hf : file ≤ 1) :
    Calls Tryz.prog 27 #[.pointer (some ⟨v, 0, none⟩), .slice A n c] w fun e W => e = .returned (.int .i64 (compactT failed file gen count l S).1) ∧ Two w0 d r X T' (compactT failed file gen count l S).2.1 W ∧ Ro W v 78 (rvV r (compactT failed file gen count l S).2.2.1 (compactT failed file gen count l S).2.2.2.1 (compactT failed file gen count l S).2.2.2.2.1 (compactT failed file gen count l S).2.2.2.2.2) ∧ Kept (fun b => X b ∧ b ≠ v) w W := by
  obtain ⟨F, D, hF, K⟩ := T.rp
  refine (rcompact_any (c := c) K lt hk (.inl xv) lo V hR hn hw hg hf).mono ?_
  rintro e W ⟨h1, K2, V2, K3⟩
  exact ⟨h1, Two.ofRp D K2 (K3.weak fun b hb _ => ⟨.inr hb, fun e => (hF b hb).2 (by rw [e]; exact xv)⟩) (fun b hb hf2 => (hF b hf2).2 hb), V2, K3.weak fun b hb _ => ⟨.inl hb.1, hb.2⟩⟩
/-- What Open leaves beside the reference's disk. -/
def VOpQ (w0 : World) (d r : Nat) (X : Nat → Prop) (T' : Dk) (w : World) (x : Int) (S : Dk) (file gen : Nat) (recs : List (List Nat)) (e : Ending) (W : World) : Prop :=
  (x ≠ 0 ∧ e = .returned (.tuple #[.pointer none, .slice none 0 0, .int .i64 x]) ∧ Two w0 d r X S T' W ∧ Kept X w W) ∨
  (x = 0 ∧ ∃ v A c Y, e = .returned (.tuple #[.pointer (some ⟨v, 0, none⟩), .slice A recs.length c, .int .i64 0]) ∧ w.heap.size ≤ v ∧ Ro W v 90 (vtV d file gen recs.length false) ∧ Rows W Y 1 ByR A recs.length recs ∧ (∀ b, Y b → w.heap.size ≤ b ∧ b ≠ v) ∧ Two w0 d r (fun b => X b ∨ b = v ∨ Y b) S T' W ∧ Kept X w W)
theorem vopen_two (hLd : Laid w0) (T : Two w0 d r X S T' w) (hcnt : S.cnt ≤ 1000000000) :
    Calls Tryz.prog 11 #[.pointer (some ⟨d, 0, none⟩)] w (VOpQ w0 d r X T' w (openS S).1 (openS S).2.1 (openS S).2.2.1 (openS S).2.2.2.1 (openS S).2.2.2.2) := by
  obtain ⟨G, K, hG, D⟩ := T.dp
  refine (open_any hLd D (fun b hb => hb.elim (T.inn b) fun h => (hG b h).1) hcnt).mono ?_
  rintro e W (⟨h1, h2, D2, K2⟩ | ⟨h1, v, rr, Y, h2, hv, hV, ⟨A, c, h3, hc, hR⟩, hY, D2, K2⟩)
  · exact .inl ⟨h1, h2, Two.ofDp K (fun b hb => (hG b hb).1) D2 (K2.weak fun b hb _ => .inr hb) (fun b hb hg2 => (hG b hg2).2 hb), K2.weak fun b hb _ => .inl hb⟩
  · subst h3
    refine .inr ⟨h1, v, A, c, Y, h2, hv, hV, hR, hY, Two.ofDp K (fun b hb => (hG b hb).1) ?_ (K2.weak fun b hb _ => .inr hb) (fun b hb hg2 => ?_), K2.weak fun b hb _ => .inl hb⟩
    · exact D2.narrow fun b hb => by
        rcases hb with (hb | hb | hb) | hb
        · exact .inl (.inl hb)
        · exact .inr (.inl hb)
        · exact .inr (.inr hb)
        · exact .inl (.inr hb)
    · have := (hG b hg2).1
      rcases hb with hb | hb | hb
      · exact (hG b hg2).2 hb
      · omega
      · have := (hY b hb).1
        omega
def ROpQ (w0 : World) (d r : Nat) (X : Nat → Prop) (T' : Dk) (w : World) (x : Int) (S : Dk) (file gen : Nat) (recs : List (List Nat)) (e : Ending) (W : World) : Prop :=
  (x ≠ 0 ∧ e = .returned (.tuple #[.pointer none, .slice none 0 0, .int .i64 x]) ∧ Two w0 d r X T' S W ∧ Kept X w W) ∨
  (x = 0 ∧ ∃ v A c, e = .returned (.tuple #[.pointer (some ⟨v, 0, none⟩), .slice A recs.length c, .int .i64 0]) ∧ w.heap.size ≤ v ∧ Ro W v 78 (rvV r file gen recs.length false) ∧ Rows W (fun b => w.heap.size ≤ b) 1 ByR A recs.length recs ∧ Two w0 d r (fun b => X b ∨ b = v) T' S W ∧ Kept X w W)
theorem ropen_two (T : Two w0 d r X T' S w) (lt : Ltk k S) (hk : k ≤ 10) (hm : S.most ≤ 1048576) :
    Calls Tryz.prog 22 #[.pointer (some ⟨r, 0, none⟩)] w (ROpQ w0 d r X T' w (openS S).1 (openS S).2.1 (openS S).2.2.1 (openS S).2.2.2.1 (openS S).2.2.2.2) := by
  obtain ⟨F, D, hF, K⟩ := T.rp
  refine (ropen_any K lt hk hm).mono ?_
  rintro e W (⟨h1, h2, D2, K2⟩ | ⟨h1, v, A, c, h2, hv, hV, hR, D2, K2⟩)
  · exact .inl ⟨h1, h2, Two.ofRp D D2 (K2.weak fun b hb _ => .inr hb) (fun b hb hg2 => (hF b hg2).2 hb), K2.weak fun b hb _ => .inl hb⟩
  · refine .inr ⟨h1, v, A, c, h2, hv, hV, hR, Two.ofRp D ?_ (K2.weak fun b hb _ => .inr hb) (fun b hb hg2 => ?_), K2.weak fun b hb _ => .inl hb⟩
    · exact D2.narrow fun b hb => by
        rcases hb with (hb | hb) | hb
        · exact .inl (.inl hb)
        · exact .inr hb
        · exact .inl (.inr hb)
    · have := (hF b hg2).1
      rcases hb with hb | hb
      · exact (hF b hg2).2 hb
      · omega
end
end Go.Proofs.YtjcphpmlekfhdaaGreatDoor
