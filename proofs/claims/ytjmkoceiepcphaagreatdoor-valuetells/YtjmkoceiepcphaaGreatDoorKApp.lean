/- Contracts of value.appendInt, appendKey. -/
import Derived.Test.YtjmkoceiepcphaaGreatDoorNums
import Derived.Test.YtjmkoceiepcphaaGreatDoorKMath
import Derived.Lib.AppendStr
namespace Go.Proofs.YtjmkoceiepcphaaGreatDoor
open Go.RowKit Go.Lib

theorem u8_of {n : Nat} (h : n < 256) : ((n.toUInt8.toNat : Nat) : Int) = (n : Int) := by rw [toUInt8_lt h]
theorem be8_cells {L : Nat} (h : L < 18446744073709551616) : byteCells (beN 8 L) = [.int .u8 ((L : Int) / 72057594037927936), .int .u8 ((L : Int) / 281474976710656 % 256), .int .u8 ((L : Int) / 1099511627776 % 256), .int .u8 ((L : Int) / 4294967296 % 256), .int .u8 ((L : Int) / 16777216 % 256), .int .u8 ((L : Int) / 65536 % 256), .int .u8 ((L : Int) / 256 % 256), .int .u8 ((L : Int) % 256)] := by
  simp only [beN, byteCells, List.map_cons, List.map_nil]
  have e0 : (L / 256 ^ 7) < 256 := by simp only [Nat.reducePow]; omega
  have e1 : (L % 256 ^ 7 / 256 ^ 6) < 256 := by simp only [Nat.reducePow]; omega
  have e2 : (L % 256 ^ 7 % 256 ^ 6 / 256 ^ 5) < 256 := by simp only [Nat.reducePow]; omega
  have e3 : (L % 256 ^ 7 % 256 ^ 6 % 256 ^ 5 / 256 ^ 4) < 256 := by simp only [Nat.reducePow]; omega
  have e4 : (L % 256 ^ 7 % 256 ^ 6 % 256 ^ 5 % 256 ^ 4 / 256 ^ 3) < 256 := by simp only [Nat.reducePow]; omega
  have e5 : (L % 256 ^ 7 % 256 ^ 6 % 256 ^ 5 % 256 ^ 4 % 256 ^ 3 / 256 ^ 2) < 256 := by simp only [Nat.reducePow]; omega
  have e6 : (L % 256 ^ 7 % 256 ^ 6 % 256 ^ 5 % 256 ^ 4 % 256 ^ 3 % 256 ^ 2 / 256 ^ 1) < 256 := by simp only [Nat.reducePow]; omega
  have e7 : (L % 256 ^ 7 % 256 ^ 6 % 256 ^ 5 % 256 ^ 4 % 256 ^ 3 % 256 ^ 2 % 256 ^ 1 / 256 ^ 0) < 256 := by simp only [Nat.reducePow]; omega
  rw [u8_of e0, u8_of e1, u8_of e2, u8_of e3, u8_of e4, u8_of e5, u8_of e6, u8_of e7]
  simp only [Nat.reducePow]
  have f0 : ((L / 72057594037927936 : Nat) : Int) = (L : Int) / 72057594037927936 := by omega
  have f1 : ((L % 72057594037927936 / 281474976710656 : Nat) : Int) = (L : Int) / 281474976710656 % 256 := by omega
  have f2 : ((L % 72057594037927936 % 281474976710656 / 1099511627776 : Nat) : Int) = (L : Int) / 1099511627776 % 256 := by omega
  have f3 : ((L % 72057594037927936 % 281474976710656 % 1099511627776 / 4294967296 : Nat) : Int) = (L : Int) / 4294967296 % 256 := by omega
  have f4 : ((L % 72057594037927936 % 281474976710656 % 1099511627776 % 4294967296 / 16777216 : Nat) : Int) = (L : Int) / 16777216 % 256 := by omega
  have f5 : ((L % 72057594037927936 % 281474976710656 % 1099511627776 % 4294967296 % 16777216 / 65536 : Nat) : Int) = (L : Int) / 65536 % 256 := by omega
  have f6 : ((L % 72057594037927936 % 281474976710656 % 1099511627776 % 4294967296 % 16777216 % 65536 / 256 : Nat) : Int) = (L : Int) / 256 % 256 := by omega
  have f7 : ((L % 72057594037927936 % 281474976710656 % 1099511627776 % 4294967296 % 16777216 % 65536 % 256 / 1 : Nat) : Int) = (L : Int) % 256 := by omega
  rw [f0, f1, f2, f3, f4, f5, f6, f7]

end Go.Proofs.YtjmkoceiepcphaaGreatDoor
