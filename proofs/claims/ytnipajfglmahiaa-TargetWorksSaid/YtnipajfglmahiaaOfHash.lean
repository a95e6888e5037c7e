/- What OfHash of the package big returns: four words, each gathered of eight bytes of the hash, the lowest byte first. -/
import Derived.Test.YtnipajfglmahiaaWords
namespace Go.Proofs.Ytnipajfglmahiaa
open Go.RowKit

/-- How the words grow: f k j is word j behind k bytes. -/
structure Gathers (hb : Nat → Nat) (f : Nat → Nat → Nat) : Prop where
  byte : ∀ k, k < 32 → hb k < 256
  zero : ∀ j, f 0 j = 0
  same : ∀ k j, k < 32 → j ≠ k / 8 → f (k + 1) j = f k j
  step : ∀ k, k < 32 → bits .or .u64 (f k (k / 8) : Int) (IntKind.u64.wrap ((hb k : Int) * 2 ^ (k % 8 * 8))) = (f (k + 1) (k / 8) : Int)

theorem index_hash (hb : Nat → Nat) (w : World) (k : Nat) (h : k < 32) :
    (Instr.index 32 (.agg #[.int .u8 (hb 0 : Nat), .int .u8 (hb 1 : Nat), .int .u8 (hb 2 : Nat), .int .u8 (hb 3 : Nat), .int .u8 (hb 4 : Nat), .int .u8 (hb 5 : Nat), .int .u8 (hb 6 : Nat), .int .u8 (hb 7 : Nat), .int .u8 (hb 8 : Nat), .int .u8 (hb 9 : Nat), .int .u8 (hb 10 : Nat), .int .u8 (hb 11 : Nat), .int .u8 (hb 12 : Nat), .int .u8 (hb 13 : Nat), .int .u8 (hb 14 : Nat), .int .u8 (hb 15 : Nat), .int .u8 (hb 16 : Nat), .int .u8 (hb 17 : Nat), .int .u8 (hb 18 : Nat), .int .u8 (hb 19 : Nat), .int .u8 (hb 20 : Nat), .int .u8 (hb 21 : Nat), .int .u8 (hb 22 : Nat), .int .u8 (hb 23 : Nat), .int .u8 (hb 24 : Nat), .int .u8 (hb 25 : Nat), .int .u8 (hb 26 : Nat), .int .u8 (hb 27 : Nat), .int .u8 (hb 28 : Nat), .int .u8 (hb 29 : Nat), .int .u8 (hb 30 : Nat), .int .u8 (hb 31 : Nat)]) (.int .i64 (k : Nat))).run Try.prog w = .ok (.int .u8 (hb k : Nat)) w := by
  match k, h with
  | 0, _ => exact (by kernel_rfl : (Instr.index 32 (.agg #[.int .u8 (hb 0 : Nat), .int .u8 (hb 1 : Nat), .int .u8 (hb 2 : Nat), .int .u8 (hb 3 : Nat), .int .u8 (hb 4 : Nat), .int .u8 (hb 5 : Nat), .int .u8 (hb 6 : Nat), .int .u8 (hb 7 : Nat), .int .u8 (hb 8 : Nat), .int .u8 (hb 9 : Nat), .int .u8 (hb 10 : Nat), .int .u8 (hb 11 : Nat), .int .u8 (hb 12 : Nat), .int .u8 (hb 13 : Nat), .int .u8 (hb 14 : Nat), .int .u8 (hb 15 : Nat), .int .u8 (hb 16 : Nat), .int .u8 (hb 17 : Nat), .int .u8 (hb 18 : Nat), .int .u8 (hb 19 : Nat), .int .u8 (hb 20 : Nat), .int .u8 (hb 21 : Nat), .int .u8 (hb 22 : Nat), .int .u8 (hb 23 : Nat), .int .u8 (hb 24 : Nat), .int .u8 (hb 25 : Nat), .int .u8 (hb 26 : Nat), .int .u8 (hb 27 : Nat), .int .u8 (hb 28 : Nat), .int .u8 (hb 29 : Nat), .int .u8 (hb 30 : Nat), .int .u8 (hb 31 : Nat)]) (.int .i64 0)).run Try.prog w = .ok (.int .u8 (hb 0 : Nat)) w)
  | 1, _ => exact (by kernel_rfl : (Instr.index 32 (.agg #[.int .u8 (hb 0 : Nat), .int .u8 (hb 1 : Nat), .int .u8 (hb 2 : Nat), .int .u8 (hb 3 : Nat), .int .u8 (hb 4 : Nat), .int .u8 (hb 5 : Nat), .int .u8 (hb 6 : Nat), .int .u8 (hb 7 : Nat), .int .u8 (hb 8 : Nat), .int .u8 (hb 9 : Nat), .int .u8 (hb 10 : Nat), .int .u8 (hb 11 : Nat), .int .u8 (hb 12 : Nat), .int .u8 (hb 13 : Nat), .int .u8 (hb 14 : Nat), .int .u8 (hb 15 : Nat), .int .u8 (hb 16 : Nat), .int .u8 (hb 17 : Nat), .int .u8 (hb 18 : Nat), .int .u8 (hb 19 : Nat), .int .u8 (hb 20 : Nat), .int .u8 (hb 21 : Nat), .int .u8 (hb 22 : Nat), .int .u8 (hb 23 : Nat), .int .u8 (hb 24 : Nat), .int .u8 (hb 25 : Nat), .int .u8 (hb 26 : Nat), .int .u8 (hb 27 : Nat), .int .u8 (hb 28 : Nat), .int .u8 (hb 29 : Nat), .int .u8 (hb 30 : Nat), .int .u8 (hb 31 : Nat)]) (.int .i64 1)).run Try.prog w = .ok (.int .u8 (hb 1 : Nat)) w)
  | 2, _ => exact (by kernel_rfl : (Instr.index 32 (.agg #[.int .u8 (hb 0 : Nat), .int .u8 (hb 1 : Nat), .int .u8 (hb 2 : Nat), .int .u8 (hb 3 : Nat), .int .u8 (hb 4 : Nat), .int .u8 (hb 5 : Nat), .int .u8 (hb 6 : Nat), .int .u8 (hb 7 : Nat), .int .u8 (hb 8 : Nat), .int .u8 (hb 9 : Nat), .int .u8 (hb 10 : Nat), .int .u8 (hb 11 : Nat), .int .u8 (hb 12 : Nat), .int .u8 (hb 13 : Nat), .int .u8 (hb 14 : Nat), .int .u8 (hb 15 : Nat), .int .u8 (hb 16 : Nat), .int .u8 (hb 17 : Nat), .int .u8 (hb 18 : Nat), .int .u8 (hb 19 : Nat), .int .u8 (hb 20 : Nat), .int .u8 (hb 21 : Nat), .int .u8 (hb 22 : Nat), .int .u8 (hb 23 : Nat), .int .u8 (hb 24 : Nat), .int .u8 (hb 25 : Nat), .int .u8 (hb 26 : Nat), .int .u8 (hb 27 : Nat), .int .u8 (hb 28 : Nat), .int .u8 (hb 29 : Nat), .int .u8 (hb 30 : Nat), .int .u8 (hb 31 : Nat)]) (.int .i64 2)).run Try.prog w = .ok (.int .u8 (hb 2 : Nat)) w)
  | 3, _ => exact (by kernel_rfl : (Instr.index 32 (.agg #[.int .u8 (hb 0 : Nat), .int .u8 (hb 1 : Nat), .int .u8 (hb 2 : Nat), .int .u8 (hb 3 : Nat), .int .u8 (hb 4 : Nat), .int .u8 (hb 5 : Nat), .int .u8 (hb 6 : Nat), .int .u8 (hb 7 : Nat), .int .u8 (hb 8 : Nat), .int .u8 (hb 9 : Nat), .int .u8 (hb 10 : Nat), .int .u8 (hb 11 : Nat), .int .u8 (hb 12 : Nat), .int .u8 (hb 13 : Nat), .int .u8 (hb 14 : Nat), .int .u8 (hb 15 : Nat), .int .u8 (hb 16 : Nat), .int .u8 (hb 17 : Nat), .int .u8 (hb 18 : Nat), .int .u8 (hb 19 : Nat), .int .u8 (hb 20 : Nat), .int .u8 (hb 21 : Nat), .int .u8 (hb 22 : Nat), .int .u8 (hb 23 : Nat), .int .u8 (hb 24 : Nat), .int .u8 (hb 25 : Nat), .int .u8 (hb 26 : Nat), .int .u8 (hb 27 : Nat), .int .u8 (hb 28 : Nat), .int .u8 (hb 29 : Nat), .int .u8 (hb 30 : Nat), .int .u8 (hb 31 : Nat)]) (.int .i64 3)).run Try.prog w = .ok (.int .u8 (hb 3 : Nat)) w)
  | 4, _ => exact (by kernel_rfl : (Instr.index 32 (.agg #[.int .u8 (hb 0 : Nat), .int .u8 (hb 1 : Nat), .int .u8 (hb 2 : Nat), .int .u8 (hb 3 : Nat), .int .u8 (hb 4 : Nat), .int .u8 (hb 5 : Nat), .int .u8 (hb 6 : Nat), .int .u8 (hb 7 : Nat), .int .u8 (hb 8 : Nat), .int .u8 (hb 9 : Nat), .int .u8 (hb 10 : Nat), .int .u8 (hb 11 : Nat), .int .u8 (hb 12 : Nat), .int .u8 (hb 13 : Nat), .int .u8 (hb 14 : Nat), .int .u8 (hb 15 : Nat), .int .u8 (hb 16 : Nat), .int .u8 (hb 17 : Nat), .int .u8 (hb 18 : Nat), .int .u8 (hb 19 : Nat), .int .u8 (hb 20 : Nat), .int .u8 (hb 21 : Nat), .int .u8 (hb 22 : Nat), .int .u8 (hb 23 : Nat), .int .u8 (hb 24 : Nat), .int .u8 (hb 25 : Nat), .int .u8 (hb 26 : Nat), .int .u8 (hb 27 : Nat), .int .u8 (hb 28 : Nat), .int .u8 (hb 29 : Nat), .int .u8 (hb 30 : Nat), .int .u8 (hb 31 : Nat)]) (.int .i64 4)).run Try.prog w = .ok (.int .u8 (hb 4 : Nat)) w)
  | 5, _ => exact (by kernel_rfl : (Instr.index 32 (.agg #[.int .u8 (hb 0 : Nat), .int .u8 (hb 1 : Nat), .int .u8 (hb 2 : Nat), .int .u8 (hb 3 : Nat), .int .u8 (hb 4 : Nat), .int .u8 (hb 5 : Nat), .int .u8 (hb 6 : Nat), .int .u8 (hb 7 : Nat), .int .u8 (hb 8 : Nat), .int .u8 (hb 9 : Nat), .int .u8 (hb 10 : Nat), .int .u8 (hb 11 : Nat), .int .u8 (hb 12 : Nat), .int .u8 (hb 13 : Nat), .int .u8 (hb 14 : Nat), .int .u8 (hb 15 : Nat), .int .u8 (hb 16 : Nat), .int .u8 (hb 17 : Nat), .int .u8 (hb 18 : Nat), .int .u8 (hb 19 : Nat), .int .u8 (hb 20 : Nat), .int .u8 (hb 21 : Nat), .int .u8 (hb 22 : Nat), .int .u8 (hb 23 : Nat), .int .u8 (hb 24 : Nat), .int .u8 (hb 25 : Nat), .int .u8 (hb 26 : Nat), .int .u8 (hb 27 : Nat), .int .u8 (hb 28 : Nat), .int .u8 (hb 29 : Nat), .int .u8 (hb 30 : Nat), .int .u8 (hb 31 : Nat)]) (.int .i64 5)).run Try.prog w = .ok (.int .u8 (hb 5 : Nat)) w)
  | 6, _ => exact (by kernel_rfl : (Instr.index 32 (.agg #[.int .u8 (hb 0 : Nat), .int .u8 (hb 1 : Nat), .int .u8 (hb 2 : Nat), .int .u8 (hb 3 : Nat), .int .u8 (hb 4 : Nat), .int .u8 (hb 5 : Nat), .int .u8 (hb 6 : Nat), .int .u8 (hb 7 : Nat), .int .u8 (hb 8 : Nat), .int .u8 (hb 9 : Nat), .int .u8 (hb 10 : Nat), .int .u8 (hb 11 : Nat), .int .u8 (hb 12 : Nat), .int .u8 (hb 13 : Nat), .int .u8 (hb 14 : Nat), .int .u8 (hb 15 : Nat), .int .u8 (hb 16 : Nat), .int .u8 (hb 17 : Nat), .int .u8 (hb 18 : Nat), .int .u8 (hb 19 : Nat), .int .u8 (hb 20 : Nat), .int .u8 (hb 21 : Nat), .int .u8 (hb 22 : Nat), .int .u8 (hb 23 : Nat), .int .u8 (hb 24 : Nat), .int .u8 (hb 25 : Nat), .int .u8 (hb 26 : Nat), .int .u8 (hb 27 : Nat), .int .u8 (hb 28 : Nat), .int .u8 (hb 29 : Nat), .int .u8 (hb 30 : Nat), .int .u8 (hb 31 : Nat)]) (.int .i64 6)).run Try.prog w = .ok (.int .u8 (hb 6 : Nat)) w)
  | 7, _ => exact (by kernel_rfl : (Instr.index 32 (.agg #[.int .u8 (hb 0 : Nat), .int .u8 (hb 1 : Nat), .int .u8 (hb 2 : Nat), .int .u8 (hb 3 : Nat), .int .u8 (hb 4 : Nat), .int .u8 (hb 5 : Nat), .int .u8 (hb 6 : Nat), .int .u8 (hb 7 : Nat), .int .u8 (hb 8 : Nat), .int .u8 (hb 9 : Nat), .int .u8 (hb 10 : Nat), .int .u8 (hb 11 : Nat), .int .u8 (hb 12 : Nat), .int .u8 (hb 13 : Nat), .int .u8 (hb 14 : Nat), .int .u8 (hb 15 : Nat), .int .u8 (hb 16 : Nat), .int .u8 (hb 17 : Nat), .int .u8 (hb 18 : Nat), .int .u8 (hb 19 : Nat), .int .u8 (hb 20 : Nat), .int .u8 (hb 21 : Nat), .int .u8 (hb 22 : Nat), .int .u8 (hb 23 : Nat), .int .u8 (hb 24 : Nat), .int .u8 (hb 25 : Nat), .int .u8 (hb 26 : Nat), .int .u8 (hb 27 : Nat), .int .u8 (hb 28 : Nat), .int .u8 (hb 29 : Nat), .int .u8 (hb 30 : Nat), .int .u8 (hb 31 : Nat)]) (.int .i64 7)).run Try.prog w = .ok (.int .u8 (hb 7 : Nat)) w)
  | 8, _ => exact (by kernel_rfl : (Instr.index 32 (.agg #[.int .u8 (hb 0 : Nat), .int .u8 (hb 1 : Nat), .int .u8 (hb 2 : Nat), .int .u8 (hb 3 : Nat), .int .u8 (hb 4 : Nat), .int .u8 (hb 5 : Nat), .int .u8 (hb 6 : Nat), .int .u8 (hb 7 : Nat), .int .u8 (hb 8 : Nat), .int .u8 (hb 9 : Nat), .int .u8 (hb 10 : Nat), .int .u8 (hb 11 : Nat), .int .u8 (hb 12 : Nat), .int .u8 (hb 13 : Nat), .int .u8 (hb 14 : Nat), .int .u8 (hb 15 : Nat), .int .u8 (hb 16 : Nat), .int .u8 (hb 17 : Nat), .int .u8 (hb 18 : Nat), .int .u8 (hb 19 : Nat), .int .u8 (hb 20 : Nat), .int .u8 (hb 21 : Nat), .int .u8 (hb 22 : Nat), .int .u8 (hb 23 : Nat), .int .u8 (hb 24 : Nat), .int .u8 (hb 25 : Nat), .int .u8 (hb 26 : Nat), .int .u8 (hb 27 : Nat), .int .u8 (hb 28 : Nat), .int .u8 (hb 29 : Nat), .int .u8 (hb 30 : Nat), .int .u8 (hb 31 : Nat)]) (.int .i64 8)).run Try.prog w = .ok (.int .u8 (hb 8 : Nat)) w)
  | 9, _ => exact (by kernel_rfl : (Instr.index 32 (.agg #[.int .u8 (hb 0 : Nat), .int .u8 (hb 1 : Nat), .int .u8 (hb 2 : Nat), .int .u8 (hb 3 : Nat), .int .u8 (hb 4 : Nat), .int .u8 (hb 5 : Nat), .int .u8 (hb 6 : Nat), .int .u8 (hb 7 : Nat), .int .u8 (hb 8 : Nat), .int .u8 (hb 9 : Nat), .int .u8 (hb 10 : Nat), .int .u8 (hb 11 : Nat), .int .u8 (hb 12 : Nat), .int .u8 (hb 13 : Nat), .int .u8 (hb 14 : Nat), .int .u8 (hb 15 : Nat), .int .u8 (hb 16 : Nat), .int .u8 (hb 17 : Nat), .int .u8 (hb 18 : Nat), .int .u8 (hb 19 : Nat), .int .u8 (hb 20 : Nat), .int .u8 (hb 21 : Nat), .int .u8 (hb 22 : Nat), .int .u8 (hb 23 : Nat), .int .u8 (hb 24 : Nat), .int .u8 (hb 25 : Nat), .int .u8 (hb 26 : Nat), .int .u8 (hb 27 : Nat), .int .u8 (hb 28 : Nat), .int .u8 (hb 29 : Nat), .int .u8 (hb 30 : Nat), .int .u8 (hb 31 : Nat)]) (.int .i64 9)).run Try.prog w = .ok (.int .u8 (hb 9 : Nat)) w)
  | 10, _ => exact (by kernel_rfl : (Instr.index 32 (.agg #[.int .u8 (hb 0 : Nat), .int .u8 (hb 1 : Nat), .int .u8 (hb 2 : Nat), .int .u8 (hb 3 : Nat), .int .u8 (hb 4 : Nat), .int .u8 (hb 5 : Nat), .int .u8 (hb 6 : Nat), .int .u8 (hb 7 : Nat), .int .u8 (hb 8 : Nat), .int .u8 (hb 9 : Nat), .int .u8 (hb 10 : Nat), .int .u8 (hb 11 : Nat), .int .u8 (hb 12 : Nat), .int .u8 (hb 13 : Nat), .int .u8 (hb 14 : Nat), .int .u8 (hb 15 : Nat), .int .u8 (hb 16 : Nat), .int .u8 (hb 17 : Nat), .int .u8 (hb 18 : Nat), .int .u8 (hb 19 : Nat), .int .u8 (hb 20 : Nat), .int .u8 (hb 21 : Nat), .int .u8 (hb 22 : Nat), .int .u8 (hb 23 : Nat), .int .u8 (hb 24 : Nat), .int .u8 (hb 25 : Nat), .int .u8 (hb 26 : Nat), .int .u8 (hb 27 : Nat), .int .u8 (hb 28 : Nat), .int .u8 (hb 29 : Nat), .int .u8 (hb 30 : Nat), .int .u8 (hb 31 : Nat)]) (.int .i64 10)).run Try.prog w = .ok (.int .u8 (hb 10 : Nat)) w)
  | 11, _ => exact (by kernel_rfl : (Instr.index 32 (.agg #[.int .u8 (hb 0 : Nat), .int .u8 (hb 1 : Nat), .int .u8 (hb 2 : Nat), .int .u8 (hb 3 : Nat), .int .u8 (hb 4 : Nat), .int .u8 (hb 5 : Nat), .int .u8 (hb 6 : Nat), .int .u8 (hb 7 : Nat), .int .u8 (hb 8 : Nat), .int .u8 (hb 9 : Nat), .int .u8 (hb 10 : Nat), .int .u8 (hb 11 : Nat), .int .u8 (hb 12 : Nat), .int .u8 (hb 13 : Nat), .int .u8 (hb 14 : Nat), .int .u8 (hb 15 : Nat), .int .u8 (hb 16 : Nat), .int .u8 (hb 17 : Nat), .int .u8 (hb 18 : Nat), .int .u8 (hb 19 : Nat), .int .u8 (hb 20 : Nat), .int .u8 (hb 21 : Nat), .int .u8 (hb 22 : Nat), .int .u8 (hb 23 : Nat), .int .u8 (hb 24 : Nat), .int .u8 (hb 25 : Nat), .int .u8 (hb 26 : Nat), .int .u8 (hb 27 : Nat), .int .u8 (hb 28 : Nat), .int .u8 (hb 29 : Nat), .int .u8 (hb 30 : Nat), .int .u8 (hb 31 : Nat)]) (.int .i64 11)).run Try.prog w = .ok (.int .u8 (hb 11 : Nat)) w)
  | 12, _ => exact (by kernel_rfl : (Instr.index 32 (.agg #[.int .u8 (hb 0 : Nat), .int .u8 (hb 1 : Nat), .int .u8 (hb 2 : Nat), .int .u8 (hb 3 : Nat), .int .u8 (hb 4 : Nat), .int .u8 (hb 5 : Nat), .int .u8 (hb 6 : Nat), .int .u8 (hb 7 : Nat), .int .u8 (hb 8 : Nat), .int .u8 (hb 9 : Nat), .int .u8 (hb 10 : Nat), .int .u8 (hb 11 : Nat), .int .u8 (hb 12 : Nat), .int .u8 (hb 13 : Nat), .int .u8 (hb 14 : Nat), .int .u8 (hb 15 : Nat), .int .u8 (hb 16 : Nat), .int .u8 (hb 17 : Nat), .int .u8 (hb 18 : Nat), .int .u8 (hb 19 : Nat), .int .u8 (hb 20 : Nat), .int .u8 (hb 21 : Nat), .int .u8 (hb 22 : Nat), .int .u8 (hb 23 : Nat), .int .u8 (hb 24 : Nat), .int .u8 (hb 25 : Nat), .int .u8 (hb 26 : Nat), .int .u8 (hb 27 : Nat), .int .u8 (hb 28 : Nat), .int .u8 (hb 29 : Nat), .int .u8 (hb 30 : Nat), .int .u8 (hb 31 : Nat)]) (.int .i64 12)).run Try.prog w = .ok (.int .u8 (hb 12 : Nat)) w)
  | 13, _ => exact (by kernel_rfl : (Instr.index 32 (.agg #[.int .u8 (hb 0 : Nat), .int .u8 (hb 1 : Nat), .int .u8 (hb 2 : Nat), .int .u8 (hb 3 : Nat), .int .u8 (hb 4 : Nat), .int .u8 (hb 5 : Nat), .int .u8 (hb 6 : Nat), .int .u8 (hb 7 : Nat), .int .u8 (hb 8 : Nat), .int .u8 (hb 9 : Nat), .int .u8 (hb 10 : Nat), .int .u8 (hb 11 : Nat), .int .u8 (hb 12 : Nat), .int .u8 (hb 13 : Nat), .int .u8 (hb 14 : Nat), .int .u8 (hb 15 : Nat), .int .u8 (hb 16 : Nat), .int .u8 (hb 17 : Nat), .int .u8 (hb 18 : Nat), .int .u8 (hb 19 : Nat), .int .u8 (hb 20 : Nat), .int .u8 (hb 21 : Nat), .int .u8 (hb 22 : Nat), .int .u8 (hb 23 : Nat), .int .u8 (hb 24 : Nat), .int .u8 (hb 25 : Nat), .int .u8 (hb 26 : Nat), .int .u8 (hb 27 : Nat), .int .u8 (hb 28 : Nat), .int .u8 (hb 29 : Nat), .int .u8 (hb 30 : Nat), .int .u8 (hb 31 : Nat)]) (.int .i64 13)).run Try.prog w = .ok (.int .u8 (hb 13 : Nat)) w)
  | 14, _ => exact (by kernel_rfl : (Instr.index 32 (.agg #[.int .u8 (hb 0 : Nat), .int .u8 (hb 1 : Nat), .int .u8 (hb 2 : Nat), .int .u8 (hb 3 : Nat), .int .u8 (hb 4 : Nat), .int .u8 (hb 5 : Nat), .int .u8 (hb 6 : Nat), .int .u8 (hb 7 : Nat), .int .u8 (hb 8 : Nat), .int .u8 (hb 9 : Nat), .int .u8 (hb 10 : Nat), .int .u8 (hb 11 : Nat), .int .u8 (hb 12 : Nat), .int .u8 (hb 13 : Nat), .int .u8 (hb 14 : Nat), .int .u8 (hb 15 : Nat), .int .u8 (hb 16 : Nat), .int .u8 (hb 17 : Nat), .int .u8 (hb 18 : Nat), .int .u8 (hb 19 : Nat), .int .u8 (hb 20 : Nat), .int .u8 (hb 21 : Nat), .int .u8 (hb 22 : Nat), .int .u8 (hb 23 : Nat), .int .u8 (hb 24 : Nat), .int .u8 (hb 25 : Nat), .int .u8 (hb 26 : Nat), .int .u8 (hb 27 : Nat), .int .u8 (hb 28 : Nat), .int .u8 (hb 29 : Nat), .int .u8 (hb 30 : Nat), .int .u8 (hb 31 : Nat)]) (.int .i64 14)).run Try.prog w = .ok (.int .u8 (hb 14 : Nat)) w)
  | 15, _ => exact (by kernel_rfl : (Instr.index 32 (.agg #[.int .u8 (hb 0 : Nat), .int .u8 (hb 1 : Nat), .int .u8 (hb 2 : Nat), .int .u8 (hb 3 : Nat), .int .u8 (hb 4 : Nat), .int .u8 (hb 5 : Nat), .int .u8 (hb 6 : Nat), .int .u8 (hb 7 : Nat), .int .u8 (hb 8 : Nat), .int .u8 (hb 9 : Nat), .int .u8 (hb 10 : Nat), .int .u8 (hb 11 : Nat), .int .u8 (hb 12 : Nat), .int .u8 (hb 13 : Nat), .int .u8 (hb 14 : Nat), .int .u8 (hb 15 : Nat), .int .u8 (hb 16 : Nat), .int .u8 (hb 17 : Nat), .int .u8 (hb 18 : Nat), .int .u8 (hb 19 : Nat), .int .u8 (hb 20 : Nat), .int .u8 (hb 21 : Nat), .int .u8 (hb 22 : Nat), .int .u8 (hb 23 : Nat), .int .u8 (hb 24 : Nat), .int .u8 (hb 25 : Nat), .int .u8 (hb 26 : Nat), .int .u8 (hb 27 : Nat), .int .u8 (hb 28 : Nat), .int .u8 (hb 29 : Nat), .int .u8 (hb 30 : Nat), .int .u8 (hb 31 : Nat)]) (.int .i64 15)).run Try.prog w = .ok (.int .u8 (hb 15 : Nat)) w)
  | 16, _ => exact (by kernel_rfl : (Instr.index 32 (.agg #[.int .u8 (hb 0 : Nat), .int .u8 (hb 1 : Nat), .int .u8 (hb 2 : Nat), .int .u8 (hb 3 : Nat), .int .u8 (hb 4 : Nat), .int .u8 (hb 5 : Nat), .int .u8 (hb 6 : Nat), .int .u8 (hb 7 : Nat), .int .u8 (hb 8 : Nat), .int .u8 (hb 9 : Nat), .int .u8 (hb 10 : Nat), .int .u8 (hb 11 : Nat), .int .u8 (hb 12 : Nat), .int .u8 (hb 13 : Nat), .int .u8 (hb 14 : Nat), .int .u8 (hb 15 : Nat), .int .u8 (hb 16 : Nat), .int .u8 (hb 17 : Nat), .int .u8 (hb 18 : Nat), .int .u8 (hb 19 : Nat), .int .u8 (hb 20 : Nat), .int .u8 (hb 21 : Nat), .int .u8 (hb 22 : Nat), .int .u8 (hb 23 : Nat), .int .u8 (hb 24 : Nat), .int .u8 (hb 25 : Nat), .int .u8 (hb 26 : Nat), .int .u8 (hb 27 : Nat), .int .u8 (hb 28 : Nat), .int .u8 (hb 29 : Nat), .int .u8 (hb 30 : Nat), .int .u8 (hb 31 : Nat)]) (.int .i64 16)).run Try.prog w = .ok (.int .u8 (hb 16 : Nat)) w)
  | 17, _ => exact (by kernel_rfl : (Instr.index 32 (.agg #[.int .u8 (hb 0 : Nat), .int .u8 (hb 1 : Nat), .int .u8 (hb 2 : Nat), .int .u8 (hb 3 : Nat), .int .u8 (hb 4 : Nat), .int .u8 (hb 5 : Nat), .int .u8 (hb 6 : Nat), .int .u8 (hb 7 : Nat), .int .u8 (hb 8 : Nat), .int .u8 (hb 9 : Nat), .int .u8 (hb 10 : Nat), .int .u8 (hb 11 : Nat), .int .u8 (hb 12 : Nat), .int .u8 (hb 13 : Nat), .int .u8 (hb 14 : Nat), .int .u8 (hb 15 : Nat), .int .u8 (hb 16 : Nat), .int .u8 (hb 17 : Nat), .int .u8 (hb 18 : Nat), .int .u8 (hb 19 : Nat), .int .u8 (hb 20 : Nat), .int .u8 (hb 21 : Nat), .int .u8 (hb 22 : Nat), .int .u8 (hb 23 : Nat), .int .u8 (hb 24 : Nat), .int .u8 (hb 25 : Nat), .int .u8 (hb 26 : Nat), .int .u8 (hb 27 : Nat), .int .u8 (hb 28 : Nat), .int .u8 (hb 29 : Nat), .int .u8 (hb 30 : Nat), .int .u8 (hb 31 : Nat)]) (.int .i64 17)).run Try.prog w = .ok (.int .u8 (hb 17 : Nat)) w)
  | 18, _ => exact (by kernel_rfl : (Instr.index 32 (.agg #[.int .u8 (hb 0 : Nat), .int .u8 (hb 1 : Nat), .int .u8 (hb 2 : Nat), .int .u8 (hb 3 : Nat), .int .u8 (hb 4 : Nat), .int .u8 (hb 5 : Nat), .int .u8 (hb 6 : Nat), .int .u8 (hb 7 : Nat), .int .u8 (hb 8 : Nat), .int .u8 (hb 9 : Nat), .int .u8 (hb 10 : Nat), .int .u8 (hb 11 : Nat), .int .u8 (hb 12 : Nat), .int .u8 (hb 13 : Nat), .int .u8 (hb 14 : Nat), .int .u8 (hb 15 : Nat), .int .u8 (hb 16 : Nat), .int .u8 (hb 17 : Nat), .int .u8 (hb 18 : Nat), .int .u8 (hb 19 : Nat), .int .u8 (hb 20 : Nat), .int .u8 (hb 21 : Nat), .int .u8 (hb 22 : Nat), .int .u8 (hb 23 : Nat), .int .u8 (hb 24 : Nat), .int .u8 (hb 25 : Nat), .int .u8 (hb 26 : Nat), .int .u8 (hb 27 : Nat), .int .u8 (hb 28 : Nat), .int .u8 (hb 29 : Nat), .int .u8 (hb 30 : Nat), .int .u8 (hb 31 : Nat)]) (.int .i64 18)).run Try.prog w = .ok (.int .u8 (hb 18 : Nat)) w)
  | 19, _ => exact (by kernel_rfl : (Instr.index 32 (.agg #[.int .u8 (hb 0 : Nat), .int .u8 (hb 1 : Nat), .int .u8 (hb 2 : Nat), .int .u8 (hb 3 : Nat), .int .u8 (hb 4 : Nat), .int .u8 (hb 5 : Nat), .int .u8 (hb 6 : Nat), .int .u8 (hb 7 : Nat), .int .u8 (hb 8 : Nat), .int .u8 (hb 9 : Nat), .int .u8 (hb 10 : Nat), .int .u8 (hb 11 : Nat), .int .u8 (hb 12 : Nat), .int .u8 (hb 13 : Nat), .int .u8 (hb 14 : Nat), .int .u8 (hb 15 : Nat), .int .u8 (hb 16 : Nat), .int .u8 (hb 17 : Nat), .int .u8 (hb 18 : Nat), .int .u8 (hb 19 : Nat), .int .u8 (hb 20 : Nat), .int .u8 (hb 21 : Nat), .int .u8 (hb 22 : Nat), .int .u8 (hb 23 : Nat), .int .u8 (hb 24 : Nat), .int .u8 (hb 25 : Nat), .int .u8 (hb 26 : Nat), .int .u8 (hb 27 : Nat), .int .u8 (hb 28 : Nat), .int .u8 (hb 29 : Nat), .int .u8 (hb 30 : Nat), .int .u8 (hb 31 : Nat)]) (.int .i64 19)).run Try.prog w = .ok (.int .u8 (hb 19 : Nat)) w)
  | 20, _ => exact (by kernel_rfl : (Instr.index 32 (.agg #[.int .u8 (hb 0 : Nat), .int .u8 (hb 1 : Nat), .int .u8 (hb 2 : Nat), .int .u8 (hb 3 : Nat), .int .u8 (hb 4 : Nat), .int .u8 (hb 5 : Nat), .int .u8 (hb 6 : Nat), .int .u8 (hb 7 : Nat), .int .u8 (hb 8 : Nat), .int .u8 (hb 9 : Nat), .int .u8 (hb 10 : Nat), .int .u8 (hb 11 : Nat), .int .u8 (hb 12 : Nat), .int .u8 (hb 13 : Nat), .int .u8 (hb 14 : Nat), .int .u8 (hb 15 : Nat), .int .u8 (hb 16 : Nat), .int .u8 (hb 17 : Nat), .int .u8 (hb 18 : Nat), .int .u8 (hb 19 : Nat), .int .u8 (hb 20 : Nat), .int .u8 (hb 21 : Nat), .int .u8 (hb 22 : Nat), .int .u8 (hb 23 : Nat), .int .u8 (hb 24 : Nat), .int .u8 (hb 25 : Nat), .int .u8 (hb 26 : Nat), .int .u8 (hb 27 : Nat), .int .u8 (hb 28 : Nat), .int .u8 (hb 29 : Nat), .int .u8 (hb 30 : Nat), .int .u8 (hb 31 : Nat)]) (.int .i64 20)).run Try.prog w = .ok (.int .u8 (hb 20 : Nat)) w)
  | 21, _ => exact (by kernel_rfl : (Instr.index 32 (.agg #[.int .u8 (hb 0 : Nat), .int .u8 (hb 1 : Nat), .int .u8 (hb 2 : Nat), .int .u8 (hb 3 : Nat), .int .u8 (hb 4 : Nat), .int .u8 (hb 5 : Nat), .int .u8 (hb 6 : Nat), .int .u8 (hb 7 : Nat), .int .u8 (hb 8 : Nat), .int .u8 (hb 9 : Nat), .int .u8 (hb 10 : Nat), .int .u8 (hb 11 : Nat), .int .u8 (hb 12 : Nat), .int .u8 (hb 13 : Nat), .int .u8 (hb 14 : Nat), .int .u8 (hb 15 : Nat), .int .u8 (hb 16 : Nat), .int .u8 (hb 17 : Nat), .int .u8 (hb 18 : Nat), .int .u8 (hb 19 : Nat), .int .u8 (hb 20 : Nat), .int .u8 (hb 21 : Nat), .int .u8 (hb 22 : Nat), .int .u8 (hb 23 : Nat), .int .u8 (hb 24 : Nat), .int .u8 (hb 25 : Nat), .int .u8 (hb 26 : Nat), .int .u8 (hb 27 : Nat), .int .u8 (hb 28 : Nat), .int .u8 (hb 29 : Nat), .int .u8 (hb 30 : Nat), .int .u8 (hb 31 : Nat)]) (.int .i64 21)).run Try.prog w = .ok (.int .u8 (hb 21 : Nat)) w)
  | 22, _ => exact (by kernel_rfl : (Instr.index 32 (.agg #[.int .u8 (hb 0 : Nat), .int .u8 (hb 1 : Nat), .int .u8 (hb 2 : Nat), .int .u8 (hb 3 : Nat), .int .u8 (hb 4 : Nat), .int .u8 (hb 5 : Nat), .int .u8 (hb 6 : Nat), .int .u8 (hb 7 : Nat), .int .u8 (hb 8 : Nat), .int .u8 (hb 9 : Nat), .int .u8 (hb 10 : Nat), .int .u8 (hb 11 : Nat), .int .u8 (hb 12 : Nat), .int .u8 (hb 13 : Nat), .int .u8 (hb 14 : Nat), .int .u8 (hb 15 : Nat), .int .u8 (hb 16 : Nat), .int .u8 (hb 17 : Nat), .int .u8 (hb 18 : Nat), .int .u8 (hb 19 : Nat), .int .u8 (hb 20 : Nat), .int .u8 (hb 21 : Nat), .int .u8 (hb 22 : Nat), .int .u8 (hb 23 : Nat), .int .u8 (hb 24 : Nat), .int .u8 (hb 25 : Nat), .int .u8 (hb 26 : Nat), .int .u8 (hb 27 : Nat), .int .u8 (hb 28 : Nat), .int .u8 (hb 29 : Nat), .int .u8 (hb 30 : Nat), .int .u8 (hb 31 : Nat)]) (.int .i64 22)).run Try.prog w = .ok (.int .u8 (hb 22 : Nat)) w)
  | 23, _ => exact (by kernel_rfl : (Instr.index 32 (.agg #[.int .u8 (hb 0 : Nat), .int .u8 (hb 1 : Nat), .int .u8 (hb 2 : Nat), .int .u8 (hb 3 : Nat), .int .u8 (hb 4 : Nat), .int .u8 (hb 5 : Nat), .int .u8 (hb 6 : Nat), .int .u8 (hb 7 : Nat), .int .u8 (hb 8 : Nat), .int .u8 (hb 9 : Nat), .int .u8 (hb 10 : Nat), .int .u8 (hb 11 : Nat), .int .u8 (hb 12 : Nat), .int .u8 (hb 13 : Nat), .int .u8 (hb 14 : Nat), .int .u8 (hb 15 : Nat), .int .u8 (hb 16 : Nat), .int .u8 (hb 17 : Nat), .int .u8 (hb 18 : Nat), .int .u8 (hb 19 : Nat), .int .u8 (hb 20 : Nat), .int .u8 (hb 21 : Nat), .int .u8 (hb 22 : Nat), .int .u8 (hb 23 : Nat), .int .u8 (hb 24 : Nat), .int .u8 (hb 25 : Nat), .int .u8 (hb 26 : Nat), .int .u8 (hb 27 : Nat), .int .u8 (hb 28 : Nat), .int .u8 (hb 29 : Nat), .int .u8 (hb 30 : Nat), .int .u8 (hb 31 : Nat)]) (.int .i64 23)).run Try.prog w = .ok (.int .u8 (hb 23 : Nat)) w)
  | 24, _ => exact (by kernel_rfl : (Instr.index 32 (.agg #[.int .u8 (hb 0 : Nat), .int .u8 (hb 1 : Nat), .int .u8 (hb 2 : Nat), .int .u8 (hb 3 : Nat), .int .u8 (hb 4 : Nat), .int .u8 (hb 5 : Nat), .int .u8 (hb 6 : Nat), .int .u8 (hb 7 : Nat), .int .u8 (hb 8 : Nat), .int .u8 (hb 9 : Nat), .int .u8 (hb 10 : Nat), .int .u8 (hb 11 : Nat), .int .u8 (hb 12 : Nat), .int .u8 (hb 13 : Nat), .int .u8 (hb 14 : Nat), .int .u8 (hb 15 : Nat), .int .u8 (hb 16 : Nat), .int .u8 (hb 17 : Nat), .int .u8 (hb 18 : Nat), .int .u8 (hb 19 : Nat), .int .u8 (hb 20 : Nat), .int .u8 (hb 21 : Nat), .int .u8 (hb 22 : Nat), .int .u8 (hb 23 : Nat), .int .u8 (hb 24 : Nat), .int .u8 (hb 25 : Nat), .int .u8 (hb 26 : Nat), .int .u8 (hb 27 : Nat), .int .u8 (hb 28 : Nat), .int .u8 (hb 29 : Nat), .int .u8 (hb 30 : Nat), .int .u8 (hb 31 : Nat)]) (.int .i64 24)).run Try.prog w = .ok (.int .u8 (hb 24 : Nat)) w)
  | 25, _ => exact (by kernel_rfl : (Instr.index 32 (.agg #[.int .u8 (hb 0 : Nat), .int .u8 (hb 1 : Nat), .int .u8 (hb 2 : Nat), .int .u8 (hb 3 : Nat), .int .u8 (hb 4 : Nat), .int .u8 (hb 5 : Nat), .int .u8 (hb 6 : Nat), .int .u8 (hb 7 : Nat), .int .u8 (hb 8 : Nat), .int .u8 (hb 9 : Nat), .int .u8 (hb 10 : Nat), .int .u8 (hb 11 : Nat), .int .u8 (hb 12 : Nat), .int .u8 (hb 13 : Nat), .int .u8 (hb 14 : Nat), .int .u8 (hb 15 : Nat), .int .u8 (hb 16 : Nat), .int .u8 (hb 17 : Nat), .int .u8 (hb 18 : Nat), .int .u8 (hb 19 : Nat), .int .u8 (hb 20 : Nat), .int .u8 (hb 21 : Nat), .int .u8 (hb 22 : Nat), .int .u8 (hb 23 : Nat), .int .u8 (hb 24 : Nat), .int .u8 (hb 25 : Nat), .int .u8 (hb 26 : Nat), .int .u8 (hb 27 : Nat), .int .u8 (hb 28 : Nat), .int .u8 (hb 29 : Nat), .int .u8 (hb 30 : Nat), .int .u8 (hb 31 : Nat)]) (.int .i64 25)).run Try.prog w = .ok (.int .u8 (hb 25 : Nat)) w)
  | 26, _ => exact (by kernel_rfl : (Instr.index 32 (.agg #[.int .u8 (hb 0 : Nat), .int .u8 (hb 1 : Nat), .int .u8 (hb 2 : Nat), .int .u8 (hb 3 : Nat), .int .u8 (hb 4 : Nat), .int .u8 (hb 5 : Nat), .int .u8 (hb 6 : Nat), .int .u8 (hb 7 : Nat), .int .u8 (hb 8 : Nat), .int .u8 (hb 9 : Nat), .int .u8 (hb 10 : Nat), .int .u8 (hb 11 : Nat), .int .u8 (hb 12 : Nat), .int .u8 (hb 13 : Nat), .int .u8 (hb 14 : Nat), .int .u8 (hb 15 : Nat), .int .u8 (hb 16 : Nat), .int .u8 (hb 17 : Nat), .int .u8 (hb 18 : Nat), .int .u8 (hb 19 : Nat), .int .u8 (hb 20 : Nat), .int .u8 (hb 21 : Nat), .int .u8 (hb 22 : Nat), .int .u8 (hb 23 : Nat), .int .u8 (hb 24 : Nat), .int .u8 (hb 25 : Nat), .int .u8 (hb 26 : Nat), .int .u8 (hb 27 : Nat), .int .u8 (hb 28 : Nat), .int .u8 (hb 29 : Nat), .int .u8 (hb 30 : Nat), .int .u8 (hb 31 : Nat)]) (.int .i64 26)).run Try.prog w = .ok (.int .u8 (hb 26 : Nat)) w)
  | 27, _ => exact (by kernel_rfl : (Instr.index 32 (.agg #[.int .u8 (hb 0 : Nat), .int .u8 (hb 1 : Nat), .int .u8 (hb 2 : Nat), .int .u8 (hb 3 : Nat), .int .u8 (hb 4 : Nat), .int .u8 (hb 5 : Nat), .int .u8 (hb 6 : Nat), .int .u8 (hb 7 : Nat), .int .u8 (hb 8 : Nat), .int .u8 (hb 9 : Nat), .int .u8 (hb 10 : Nat), .int .u8 (hb 11 : Nat), .int .u8 (hb 12 : Nat), .int .u8 (hb 13 : Nat), .int .u8 (hb 14 : Nat), .int .u8 (hb 15 : Nat), .int .u8 (hb 16 : Nat), .int .u8 (hb 17 : Nat), .int .u8 (hb 18 : Nat), .int .u8 (hb 19 : Nat), .int .u8 (hb 20 : Nat), .int .u8 (hb 21 : Nat), .int .u8 (hb 22 : Nat), .int .u8 (hb 23 : Nat), .int .u8 (hb 24 : Nat), .int .u8 (hb 25 : Nat), .int .u8 (hb 26 : Nat), .int .u8 (hb 27 : Nat), .int .u8 (hb 28 : Nat), .int .u8 (hb 29 : Nat), .int .u8 (hb 30 : Nat), .int .u8 (hb 31 : Nat)]) (.int .i64 27)).run Try.prog w = .ok (.int .u8 (hb 27 : Nat)) w)
  | 28, _ => exact (by kernel_rfl : (Instr.index 32 (.agg #[.int .u8 (hb 0 : Nat), .int .u8 (hb 1 : Nat), .int .u8 (hb 2 : Nat), .int .u8 (hb 3 : Nat), .int .u8 (hb 4 : Nat), .int .u8 (hb 5 : Nat), .int .u8 (hb 6 : Nat), .int .u8 (hb 7 : Nat), .int .u8 (hb 8 : Nat), .int .u8 (hb 9 : Nat), .int .u8 (hb 10 : Nat), .int .u8 (hb 11 : Nat), .int .u8 (hb 12 : Nat), .int .u8 (hb 13 : Nat), .int .u8 (hb 14 : Nat), .int .u8 (hb 15 : Nat), .int .u8 (hb 16 : Nat), .int .u8 (hb 17 : Nat), .int .u8 (hb 18 : Nat), .int .u8 (hb 19 : Nat), .int .u8 (hb 20 : Nat), .int .u8 (hb 21 : Nat), .int .u8 (hb 22 : Nat), .int .u8 (hb 23 : Nat), .int .u8 (hb 24 : Nat), .int .u8 (hb 25 : Nat), .int .u8 (hb 26 : Nat), .int .u8 (hb 27 : Nat), .int .u8 (hb 28 : Nat), .int .u8 (hb 29 : Nat), .int .u8 (hb 30 : Nat), .int .u8 (hb 31 : Nat)]) (.int .i64 28)).run Try.prog w = .ok (.int .u8 (hb 28 : Nat)) w)
  | 29, _ => exact (by kernel_rfl : (Instr.index 32 (.agg #[.int .u8 (hb 0 : Nat), .int .u8 (hb 1 : Nat), .int .u8 (hb 2 : Nat), .int .u8 (hb 3 : Nat), .int .u8 (hb 4 : Nat), .int .u8 (hb 5 : Nat), .int .u8 (hb 6 : Nat), .int .u8 (hb 7 : Nat), .int .u8 (hb 8 : Nat), .int .u8 (hb 9 : Nat), .int .u8 (hb 10 : Nat), .int .u8 (hb 11 : Nat), .int .u8 (hb 12 : Nat), .int .u8 (hb 13 : Nat), .int .u8 (hb 14 : Nat), .int .u8 (hb 15 : Nat), .int .u8 (hb 16 : Nat), .int .u8 (hb 17 : Nat), .int .u8 (hb 18 : Nat), .int .u8 (hb 19 : Nat), .int .u8 (hb 20 : Nat), .int .u8 (hb 21 : Nat), .int .u8 (hb 22 : Nat), .int .u8 (hb 23 : Nat), .int .u8 (hb 24 : Nat), .int .u8 (hb 25 : Nat), .int .u8 (hb 26 : Nat), .int .u8 (hb 27 : Nat), .int .u8 (hb 28 : Nat), .int .u8 (hb 29 : Nat), .int .u8 (hb 30 : Nat), .int .u8 (hb 31 : Nat)]) (.int .i64 29)).run Try.prog w = .ok (.int .u8 (hb 29 : Nat)) w)
  | 30, _ => exact (by kernel_rfl : (Instr.index 32 (.agg #[.int .u8 (hb 0 : Nat), .int .u8 (hb 1 : Nat), .int .u8 (hb 2 : Nat), .int .u8 (hb 3 : Nat), .int .u8 (hb 4 : Nat), .int .u8 (hb 5 : Nat), .int .u8 (hb 6 : Nat), .int .u8 (hb 7 : Nat), .int .u8 (hb 8 : Nat), .int .u8 (hb 9 : Nat), .int .u8 (hb 10 : Nat), .int .u8 (hb 11 : Nat), .int .u8 (hb 12 : Nat), .int .u8 (hb 13 : Nat), .int .u8 (hb 14 : Nat), .int .u8 (hb 15 : Nat), .int .u8 (hb 16 : Nat), .int .u8 (hb 17 : Nat), .int .u8 (hb 18 : Nat), .int .u8 (hb 19 : Nat), .int .u8 (hb 20 : Nat), .int .u8 (hb 21 : Nat), .int .u8 (hb 22 : Nat), .int .u8 (hb 23 : Nat), .int .u8 (hb 24 : Nat), .int .u8 (hb 25 : Nat), .int .u8 (hb 26 : Nat), .int .u8 (hb 27 : Nat), .int .u8 (hb 28 : Nat), .int .u8 (hb 29 : Nat), .int .u8 (hb 30 : Nat), .int .u8 (hb 31 : Nat)]) (.int .i64 30)).run Try.prog w = .ok (.int .u8 (hb 30 : Nat)) w)
  | 31, _ => exact (by kernel_rfl : (Instr.index 32 (.agg #[.int .u8 (hb 0 : Nat), .int .u8 (hb 1 : Nat), .int .u8 (hb 2 : Nat), .int .u8 (hb 3 : Nat), .int .u8 (hb 4 : Nat), .int .u8 (hb 5 : Nat), .int .u8 (hb 6 : Nat), .int .u8 (hb 7 : Nat), .int .u8 (hb 8 : Nat), .int .u8 (hb 9 : Nat), .int .u8 (hb 10 : Nat), .int .u8 (hb 11 : Nat), .int .u8 (hb 12 : Nat), .int .u8 (hb 13 : Nat), .int .u8 (hb 14 : Nat), .int .u8 (hb 15 : Nat), .int .u8 (hb 16 : Nat), .int .u8 (hb 17 : Nat), .int .u8 (hb 18 : Nat), .int .u8 (hb 19 : Nat), .int .u8 (hb 20 : Nat), .int .u8 (hb 21 : Nat), .int .u8 (hb 22 : Nat), .int .u8 (hb 23 : Nat), .int .u8 (hb 24 : Nat), .int .u8 (hb 25 : Nat), .int .u8 (hb 26 : Nat), .int .u8 (hb 27 : Nat), .int .u8 (hb 28 : Nat), .int .u8 (hb 29 : Nat), .int .u8 (hb 30 : Nat), .int .u8 (hb 31 : Nat)]) (.int .i64 31)).run Try.prog w = .ok (.int .u8 (hb 31 : Nat)) w)
  | n + 32, h => exact absurd h (by omega)

theorem heap_three (w : World) (A B C : Obj) : (((w.alloc A).alloc B).alloc C).heap[w.heap.size]? = some A := by
  rw [Below.heap_alloc _ _ _ (by simp; omega), Below.heap_alloc _ _ _ (by simp)]
  show (w.heap.push A)[w.heap.size]? = some A
  simp

set_option maxRecDepth 100000 in
set_option maxHeartbeats 2000000 in
theorem ofHash_words (hb : Nat → Nat) (f : Nat → Nat → Nat) (w : World) (g : Gathers hb f) :
    Calls Try.prog 36 #[.agg #[.int .u8 (hb 0 : Nat), .int .u8 (hb 1 : Nat), .int .u8 (hb 2 : Nat), .int .u8 (hb 3 : Nat), .int .u8 (hb 4 : Nat), .int .u8 (hb 5 : Nat), .int .u8 (hb 6 : Nat), .int .u8 (hb 7 : Nat), .int .u8 (hb 8 : Nat), .int .u8 (hb 9 : Nat), .int .u8 (hb 10 : Nat), .int .u8 (hb 11 : Nat), .int .u8 (hb 12 : Nat), .int .u8 (hb 13 : Nat), .int .u8 (hb 14 : Nat), .int .u8 (hb 15 : Nat), .int .u8 (hb 16 : Nat), .int .u8 (hb 17 : Nat), .int .u8 (hb 18 : Nat), .int .u8 (hb 19 : Nat), .int .u8 (hb 20 : Nat), .int .u8 (hb 21 : Nat), .int .u8 (hb 22 : Nat), .int .u8 (hb 23 : Nat), .int .u8 (hb 24 : Nat), .int .u8 (hb 25 : Nat), .int .u8 (hb 26 : Nat), .int .u8 (hb 27 : Nat), .int .u8 (hb 28 : Nat), .int .u8 (hb 29 : Nat), .int .u8 (hb 30 : Nat), .int .u8 (hb 31 : Nat)]] w fun e w' =>
      e = .returned (.agg #[.int .u64 (f 32 0 : Nat), .int .u64 (f 32 1 : Nat), .int .u64 (f 32 2 : Nat), .int .u64 (f 32 3 : Nat)]) ∧ Below w.heap.size w w' := by
  have G := Lib.hid g
  clear g
  have IX := Lib.hid (index_hash hb)
  go_enter Try.func36, Try.ntmps36
  go_wp2_with (refine wpList_load_row rfl 32 (.tmp 1) rfl w.heap.size rfl 32 #[.int .u8 (hb 0 : Nat), .int .u8 (hb 1 : Nat), .int .u8 (hb 2 : Nat), .int .u8 (hb 3 : Nat), .int .u8 (hb 4 : Nat), .int .u8 (hb 5 : Nat), .int .u8 (hb 6 : Nat), .int .u8 (hb 7 : Nat), .int .u8 (hb 8 : Nat), .int .u8 (hb 9 : Nat), .int .u8 (hb 10 : Nat), .int .u8 (hb 11 : Nat), .int .u8 (hb 12 : Nat), .int .u8 (hb 13 : Nat), .int .u8 (hb 14 : Nat), .int .u8 (hb 15 : Nat), .int .u8 (hb 16 : Nat), .int .u8 (hb 17 : Nat), .int .u8 (hb 18 : Nat), .int .u8 (hb 19 : Nat), .int .u8 (hb 20 : Nat), .int .u8 (hb 21 : Nat), .int .u8 (hb 22 : Nat), .int .u8 (hb 23 : Nat), .int .u8 (hb 24 : Nat), .int .u8 (hb 25 : Nat), .int .u8 (hb 26 : Nat), .int .u8 (hb 27 : Nat), .int .u8 (hb 28 : Nat), .int .u8 (hb 29 : Nat), .int .u8 (hb 30 : Nat), .int .u8 (hb 31 : Nat)] (0, 0) _ ?hg Try.underlying32 rfl (by kernel_rfl) ?_)
  case hg => exact heap_three _ _ _ _
  go_loopw [7] (fun i wr => ∃ k : Nat, k ≤ 32 ∧ i = .int .i64 k ∧ Below w.heap.size w wr ∧ wr.cell? ⟨w.heap.size + 1 + 1, 0, none⟩ = some (.int .u64 (f k 0 : Nat)) ∧ wr.cell? ⟨w.heap.size + 1 + 1, 1, none⟩ = some (.int .u64 (f k 1 : Nat)) ∧ wr.cell? ⟨w.heap.size + 1 + 1, 2, none⟩ = some (.int .u64 (f k 2 : Nat)) ∧ wr.cell? ⟨w.heap.size + 1 + 1, 3, none⟩ = some (.int .u64 (f k 3 : Nat)) ∧ wr.frozen? ⟨w.heap.size + 1 + 1, 0, none⟩ = false ∧ wr.frozen? ⟨w.heap.size + 1 + 1, 1, none⟩ = false ∧ wr.frozen? ⟨w.heap.size + 1 + 1, 2, none⟩ = false ∧ wr.frozen? ⟨w.heap.size + 1 + 1, 3, none⟩ = false ∧ wr.cell? ⟨w.heap.size + 1, 0, none⟩ = some (.int .u64 0) ∧ wr.cell? ⟨w.heap.size + 1, 1, none⟩ = some (.int .u64 0) ∧ wr.cell? ⟨w.heap.size + 1, 2, none⟩ = some (.int .u64 0) ∧ wr.cell? ⟨w.heap.size + 1, 3, none⟩ = some (.int .u64 0) ∧ wr.frozen? ⟨w.heap.size + 1, 0, none⟩ = false ∧ wr.frozen? ⟨w.heap.size + 1, 1, none⟩ = false ∧ wr.frozen? ⟨w.heap.size + 1, 2, none⟩ = false ∧ wr.frozen? ⟨w.heap.size + 1, 3, none⟩ = false) (fun i _ => 32 - (intOf i).toNat)
  case atStart =>
    refine ⟨0, by omega, rfl, by go_grown, ?_⟩
    simp only [G.out.zero]
    refine ⟨?_, ?_, ?_, ?_, ?_, ?_, ?_, ?_, ?_, ?_, ?_, ?_, ?_, ?_, ?_, ?_⟩ <;> go_cell
  case round =>
    obtain ⟨k, hk, rfl, hB, c0, c1, c2, c3, z0, z1, z2, z3, r0, r1, r2, r3, y0, y1, y2, y3⟩ := hrel
    by_cases hlt : k < 32
    · have ix := fun w => IX.out w k hlt
      have hb0 := G.out.byte k hlt
      have hj : k / 8 = 0 ∨ k / 8 = 1 ∨ k / 8 = 2 ∨ k / 8 = 3 := by omega
      rcases hj with hj | hj | hj | hj
      · have st := G.out.step k hlt
        rw [hj] at st
        have hq : (k : Int) / 8 = 0 := by omega
        obtain ⟨s, hs⟩ : ∃ s : Nat, s = k % 8 * 8 := ⟨_, rfl⟩
        rw [← hs] at st
        have S : (k : Int) % 8 * 8 = (s : Int) := by omega
        have hs64 : s < 64 := by omega
        have HS := Lib.hid hs
        have HJ := Lib.hid hj
        clear hs hj
        go_wp2_with fail
        go_region
        go_wp2_with fail
        have e1 := G.out.same k 1 hlt (by have := HJ.out; omega)
        have e2 := G.out.same k 2 hlt (by have := HJ.out; omega)
        have e3 := G.out.same k 3 hlt (by have := HJ.out; omega)
        refine ⟨⟨k + 1, by omega, by go_num, (hB.setCell (by simp; omega) _).drew, ?_, ?_, ?_, ?_, ?_, ?_, ?_, ?_, ?_, ?_, ?_, ?_, ?_, ?_, ?_, ?_⟩, by simp [intOf]; omega⟩
        · go_cell
        · rw [e1]; go_cell
        · rw [e2]; go_cell
        · rw [e3]; go_cell
        · go_cell
        · go_cell
        · go_cell
        · go_cell
        · go_cell
        · go_cell
        · go_cell
        · go_cell
        · go_cell
        · go_cell
        · go_cell
        · go_cell
      · have st := G.out.step k hlt
        rw [hj] at st
        have hq : (k : Int) / 8 = 1 := by omega
        obtain ⟨s, hs⟩ : ∃ s : Nat, s = k % 8 * 8 := ⟨_, rfl⟩
        rw [← hs] at st
        have S : (k : Int) % 8 * 8 = (s : Int) := by omega
        have hs64 : s < 64 := by omega
        have HS := Lib.hid hs
        have HJ := Lib.hid hj
        clear hs hj
        go_wp2_with fail
        go_region
        go_wp2_with fail
        have e0 := G.out.same k 0 hlt (by have := HJ.out; omega)
        have e2 := G.out.same k 2 hlt (by have := HJ.out; omega)
        have e3 := G.out.same k 3 hlt (by have := HJ.out; omega)
        refine ⟨⟨k + 1, by omega, by go_num, (hB.setCell (by simp; omega) _).drew, ?_, ?_, ?_, ?_, ?_, ?_, ?_, ?_, ?_, ?_, ?_, ?_, ?_, ?_, ?_, ?_⟩, by simp [intOf]; omega⟩
        · rw [e0]; go_cell
        · go_cell
        · rw [e2]; go_cell
        · rw [e3]; go_cell
        · go_cell
        · go_cell
        · go_cell
        · go_cell
        · go_cell
        · go_cell
        · go_cell
        · go_cell
        · go_cell
        · go_cell
        · go_cell
        · go_cell
      · have st := G.out.step k hlt
        rw [hj] at st
        have hq : (k : Int) / 8 = 2 := by omega
        obtain ⟨s, hs⟩ : ∃ s : Nat, s = k % 8 * 8 := ⟨_, rfl⟩
        rw [← hs] at st
        have S : (k : Int) % 8 * 8 = (s : Int) := by omega
        have hs64 : s < 64 := by omega
        have HS := Lib.hid hs
        have HJ := Lib.hid hj
        clear hs hj
        go_wp2_with fail
        go_region
        go_wp2_with fail
        have e0 := G.out.same k 0 hlt (by have := HJ.out; omega)
        have e1 := G.out.same k 1 hlt (by have := HJ.out; omega)
        have e3 := G.out.same k 3 hlt (by have := HJ.out; omega)
        refine ⟨⟨k + 1, by omega, by go_num, (hB.setCell (by simp; omega) _).drew, ?_, ?_, ?_, ?_, ?_, ?_, ?_, ?_, ?_, ?_, ?_, ?_, ?_, ?_, ?_, ?_⟩, by simp [intOf]; omega⟩
        · rw [e0]; go_cell
        · rw [e1]; go_cell
        · go_cell
        · rw [e3]; go_cell
        · go_cell
        · go_cell
        · go_cell
        · go_cell
        · go_cell
        · go_cell
        · go_cell
        · go_cell
        · go_cell
        · go_cell
        · go_cell
        · go_cell
      · have st := G.out.step k hlt
        rw [hj] at st
        have hq : (k : Int) / 8 = 3 := by omega
        obtain ⟨s, hs⟩ : ∃ s : Nat, s = k % 8 * 8 := ⟨_, rfl⟩
        rw [← hs] at st
        have S : (k : Int) % 8 * 8 = (s : Int) := by omega
        have hs64 : s < 64 := by omega
        have HS := Lib.hid hs
        have HJ := Lib.hid hj
        clear hs hj
        go_wp2_with fail
        go_region
        go_wp2_with fail
        have e0 := G.out.same k 0 hlt (by have := HJ.out; omega)
        have e1 := G.out.same k 1 hlt (by have := HJ.out; omega)
        have e2 := G.out.same k 2 hlt (by have := HJ.out; omega)
        refine ⟨⟨k + 1, by omega, by go_num, (hB.setCell (by simp; omega) _).drew, ?_, ?_, ?_, ?_, ?_, ?_, ?_, ?_, ?_, ?_, ?_, ?_, ?_, ?_, ?_, ?_⟩, by simp [intOf]; omega⟩
        · rw [e0]; go_cell
        · rw [e1]; go_cell
        · rw [e2]; go_cell
        · go_cell
        · go_cell
        · go_cell
        · go_cell
        · go_cell
        · go_cell
        · go_cell
        · go_cell
        · go_cell
        · go_cell
        · go_cell
        · go_cell
        · go_cell
    · obtain rfl : k = 32 := by omega
      go_wp2_with fail
      have d0 : ((((wr.setCell ⟨w.heap.size + 1, 0, none⟩ (.int .u64 (f 32 0 : Nat))).setCell ⟨w.heap.size + 1, 1, none⟩ (.int .u64 (f 32 1 : Nat))).setCell ⟨w.heap.size + 1, 2, none⟩ (.int .u64 (f 32 2 : Nat))).setCell ⟨w.heap.size + 1, 3, none⟩ (.int .u64 (f 32 3 : Nat))).cell? ⟨w.heap.size + 1, 0, none⟩ = some (.int .u64 (f 32 0 : Nat)) := by go_cell
      have d1 : ((((wr.setCell ⟨w.heap.size + 1, 0, none⟩ (.int .u64 (f 32 0 : Nat))).setCell ⟨w.heap.size + 1, 1, none⟩ (.int .u64 (f 32 1 : Nat))).setCell ⟨w.heap.size + 1, 2, none⟩ (.int .u64 (f 32 2 : Nat))).setCell ⟨w.heap.size + 1, 3, none⟩ (.int .u64 (f 32 3 : Nat))).cell? ⟨w.heap.size + 1, 1, none⟩ = some (.int .u64 (f 32 1 : Nat)) := by go_cell
      have d2 : ((((wr.setCell ⟨w.heap.size + 1, 0, none⟩ (.int .u64 (f 32 0 : Nat))).setCell ⟨w.heap.size + 1, 1, none⟩ (.int .u64 (f 32 1 : Nat))).setCell ⟨w.heap.size + 1, 2, none⟩ (.int .u64 (f 32 2 : Nat))).setCell ⟨w.heap.size + 1, 3, none⟩ (.int .u64 (f 32 3 : Nat))).cell? ⟨w.heap.size + 1, 2, none⟩ = some (.int .u64 (f 32 2 : Nat)) := by go_cell
      have d3 : ((((wr.setCell ⟨w.heap.size + 1, 0, none⟩ (.int .u64 (f 32 0 : Nat))).setCell ⟨w.heap.size + 1, 1, none⟩ (.int .u64 (f 32 1 : Nat))).setCell ⟨w.heap.size + 1, 2, none⟩ (.int .u64 (f 32 2 : Nat))).setCell ⟨w.heap.size + 1, 3, none⟩ (.int .u64 (f 32 3 : Nat))).cell? ⟨w.heap.size + 1, 3, none⟩ = some (.int .u64 (f 32 3 : Nat)) := by go_cell
      refine bodyPost_ret (v := .agg #[.int .u64 (f 32 0 : Nat), .int .u64 (f 32 1 : Nat), .int .u64 (f 32 2 : Nat), .int .u64 (f 32 3 : Nat)]) (by simp [results, Try.results36, go_sem, d0, d1, d2, d3]) rfl ⟨rfl, ?_⟩
      exact (((hB.setCell (by simp) _).setCell (by simp) _).setCell (by simp) _).setCell (by simp) _

end Go.Proofs.Ytnipajfglmahiaa
