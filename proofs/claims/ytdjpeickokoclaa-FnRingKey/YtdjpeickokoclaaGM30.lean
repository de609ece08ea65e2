/-
  Words of 32 bits.
-/
import Derived.Test.YtdjpeickokoclaaProg
import Derived.WalkKit
import Derived.WalkSpells
import Derived.WalkLawsBesides
import Derived.Lib.SmallJoins
import Derived.Deep.QuietTactic
import Derived.BigQuiet
import Derived.Below
import Derived.Deep.WholeRow
import Derived.Deep.OwnRows
import Derived.Deep.RegionHeld3
namespace Go.Proofs.Ytdjpeickokoclaa
open Go.RowKit
set_option linter.unusedVariables false
abbrev Wd := BitVec 32
theorem below_dn {B : Nat} {a w : World} (h : Below B a w) (n : Nat) : Below B a (w.drewN n) := by
  induction n with
  | zero => exact h
  | succ n ih => exact ih.drew
theorem wd_wrap (x : Int) : IntKind.u32.wrap x = x % 4294967296 := by
  simp [IntKind.wrap, IntKind.signed, IntKind.bits]
theorem wd_ofInt (a : Wd) : BitVec.ofInt 32 (a.toNat : Int) = a := by
  rw [BitVec.ofInt_natCast, BitVec.ofNat_toNat]
  simp
theorem wd_lt (a : Wd) : (a.toNat : Int) % 4294967296 = a.toNat := by
  have := a.isLt
  omega
/-- A word's number, kept shut. -/
def wn (a : Wd) : Int := (a.toNat : Int)
theorem wn_xor (a b : Wd) : bits .xor .u32 (wn a) (wn b) = wn (a ^^^ b) := by
  show IntKind.u32.wrap ((BitVec.ofInt 32 (a.toNat : Int) ^^^ BitVec.ofInt 32 (b.toNat : Int)).toNat : Int) = ((a ^^^ b).toNat : Int)
  rw [wd_ofInt, wd_ofInt, wd_wrap, wd_lt]
theorem wn_and (a b : Wd) : bits .and .u32 (wn a) (wn b) = wn (a &&& b) := by
  show IntKind.u32.wrap ((BitVec.ofInt 32 (a.toNat : Int) &&& BitVec.ofInt 32 (b.toNat : Int)).toNat : Int) = ((a &&& b).toNat : Int)
  rw [wd_ofInt, wd_ofInt, wd_wrap, wd_lt]
theorem wn_or (a b : Wd) : bits .or .u32 (wn a) (wn b) = wn (a ||| b) := by
  show IntKind.u32.wrap ((BitVec.ofInt 32 (a.toNat : Int) ||| BitVec.ofInt 32 (b.toNat : Int)).toNat : Int) = ((a ||| b).toNat : Int)
  rw [wd_ofInt, wd_ofInt, wd_wrap, wd_lt]
theorem wn_not (a : Wd) : bits .xor .u32 4294967295 (wn a) = wn (~~~a) := by
  show IntKind.u32.wrap ((BitVec.ofInt 32 4294967295 ^^^ BitVec.ofInt 32 (a.toNat : Int)).toNat : Int) = ((~~~a).toNat : Int)
  rw [wd_ofInt, wd_wrap, wd_lt, show BitVec.ofInt 32 4294967295 = BitVec.allOnes 32 from by decide, BitVec.allOnes_xor]
theorem wn_add (a b : Wd) : IntKind.u32.wrap (wn a + wn b) = wn (a + b) := by
  rw [wd_wrap]
  show ((a.toNat : Int) + (b.toNat : Int)) % 4294967296 = ((a + b).toNat : Int)
  rw [BitVec.toNat_add, show (2 : Nat) ^ 32 = 4294967296 from rfl]
  omega
theorem wn_shr (a : Wd) (k : Nat) : wn a / (2 : Int) ^ k = wn (a >>> k) := by
  show (a.toNat : Int) / (2 : Int) ^ k = ((a >>> k).toNat : Int)
  rw [BitVec.toNat_ushiftRight, Nat.shiftRight_eq_div_pow, Int.natCast_ediv, Int.natCast_pow]
  rfl
theorem wn_shl (a : Wd) (k : Nat) : IntKind.u32.wrap (wn a * (2 : Int) ^ k) = wn (a <<< k) := by
  rw [wd_wrap]
  show (a.toNat : Int) * (2 : Int) ^ k % 4294967296 = ((a <<< k).toNat : Int)
  rw [BitVec.toNat_shiftLeft, Nat.shiftLeft_eq, Int.natCast_emod, Int.natCast_mul, Int.natCast_pow]
  rfl
theorem wn_range (a : Wd) : 0 ≤ wn a ∧ wn a ≤ 4294967295 := by
  have := a.isLt
  unfold wn
  omega
def ror (a : Wd) (n : Nat) : Wd := (a >>> n) ||| (a <<< (32 - n))
set_option maxHeartbeats 1000000 in
theorem turn_any (a : Wd) (n : Nat) (h : 1 ≤ n) (h' : n ≤ 31) (w : World) :
    Calls Try.prog 35 #[.int .u32 (wn a), .int .i64 (n : Int)] w fun e w' => e = .returned (.int .u32 (wn (ror a n))) ∧ Below w.heap.size w w' := by
  obtain ⟨m, hm⟩ : ∃ m, 32 - n = m := ⟨_, rfl⟩
  have hm1 : (32 : Int) - (n : Int) = (m : Int) := by omega
  have hm0 : (0 : Int) ≤ (m : Int) := by omega
  have hm2 : (m : Int) ≤ 32 := by omega
  have hn0 : (0 : Int) ≤ (n : Int) := by omega
  have hn2 : (n : Int) ≤ 32 := by omega
  have h3 := wn_shl a m
  have h4 := wn_shr a n
  have h5 := wn_or (a >>> n) (a <<< m)
  have H6 : Hid (((a >>> n) ||| (a <<< m)) = ror a n) := by show _ = _; unfold ror; rw [hm]
  clear hm
  go_enter Try.func35, Try.ntmps35
  go_wp2_with fail
  go_quiet (fail)
  go_wp2
  go_ret
  exact ⟨by rw [← H6.out]; rfl, below_dn (Below.refl _ _) _⟩
end Go.Proofs.Ytdjpeickokoclaa
/-
  A round of a sum.
-/
namespace Go.Proofs.Ytdjpeickokoclaa
open Go.RowKit
set_option linter.unusedVariables false
/-- Eight words. -/
structure Wds where
  (a b c d e f g h : Wd)
def oneT (v : Wds) (put : Wd) : Wd := v.h + put + (ror v.e 6 ^^^ ror v.e 11 ^^^ ror v.e 25) + ((v.e &&& v.f) ^^^ (~~~v.e &&& v.g))
def twoT (v : Wds) : Wd := (ror v.a 2 ^^^ ror v.a 13 ^^^ ror v.a 22) + ((v.a &&& v.b) ^^^ (v.a &&& v.c) ^^^ (v.b &&& v.c))
def stirT (v : Wds) (put : Wd) : Wds := ⟨oneT v put + twoT v, v.a, v.b, v.c, v.d + oneT v put, v.e, v.f, v.g⟩
end Go.Proofs.Ytdjpeickokoclaa
/-
  A sum: its rounds, its blocks, and bytes put one by one.
-/
namespace Go.Proofs.Ytdjpeickokoclaa
set_option linter.unusedVariables false
/-- A byte as a word. -/
def bw (b : UInt8) : Wd := BitVec.ofNat 32 b.toNat
def w4 (a b c d : UInt8) : Wd := (bw a <<< 24) ||| (bw b <<< 16) ||| (bw c <<< 8) ||| bw d
def sg0 (x : Wd) : Wd := ror x 7 ^^^ ror x 18 ^^^ (x >>> 3)
def sg1 (x : Wd) : Wd := ror x 17 ^^^ ror x 19 ^^^ (x >>> 10)
def bAt (bs : List UInt8) (i : Nat) : UInt8 := bs.getD i 0
def wAt (l : List Wd) (i : Nat) : Wd := l.getD i 0
/-- The words of a block, the first so many. -/
def schedTo (bs : List UInt8) : Nat → List Wd
  | 0 => []
  | k + 1 => schedTo bs k ++ [if k < 16 then w4 (bAt bs (4 * k)) (bAt bs (4 * k + 1)) (bAt bs (4 * k + 2)) (bAt bs (4 * k + 3)) else wAt (schedTo bs k) (k - 16) + wAt (schedTo bs k) (k - 7) + sg0 (wAt (schedTo bs k) (k - 15)) + sg1 (wAt (schedTo bs k) (k - 2))]
theorem schedTo_len (bs : List UInt8) : ∀ k, (schedTo bs k).length = k
  | 0 => rfl
  | k + 1 => by rw [schedTo, List.length_append, schedTo_len bs k]; rfl
def addW (x y : Wds) : Wds := ⟨x.a + y.a, x.b + y.b, x.c + y.c, x.d + y.d, x.e + y.e, x.f + y.f, x.g + y.g, x.h + y.h⟩
/-- The rounds of a block, the first so many; K: the words of the rounds. -/
def roundsT (K : Nat → Wd) (bs : List UInt8) (v : Wds) : Nat → Wds
  | 0 => v
  | k + 1 => stirT (roundsT K bs v k) (K k + wAt (schedTo bs 64) k)
def mixT (K : Nat → Wd) (v : Wds) (bs : List UInt8) : Wds := addW v (roundsT K bs v 64)
/-- Whole blocks, one behind the other. -/
def blocksT (K : Nat → Wd) : Nat → Wds → List UInt8 → Wds
  | 0, v, _ => v
  | n + 1, v, l => blocksT K n (mixT K v (l.take 64)) (l.drop 64)
/-- How many bytes of 0 stand behind the bit. -/
def zerosN (n : Nat) : Nat := (119 - n % 64) % 64
theorem zerosN_at (n : Nat) : (n + 1 + zerosN n) % 64 = 56 := by unfold zerosN; omega
/-- The eight bytes of a size, the highest first. -/
def size8 (n : Nat) : List UInt8 := [56, 48, 40, 32, 24, 16, 8, 0].map fun s => UInt8.ofNat (n >>> s)
def padT (t : List UInt8) : List UInt8 := t ++ [128] ++ List.replicate (zerosN t.length) 0 ++ size8 (t.length * 8)
theorem padT_len (t : List UInt8) : (padT t).length % 64 = 0 := by
  have h := zerosN_at t.length
  unfold padT size8
  simp only [List.length_append, List.length_cons, List.length_nil, List.length_replicate, List.length_map]
  omega
def bytesOf (v : Wds) : List Wd := [v.a, v.b, v.c, v.d, v.e, v.f, v.g, v.h]
/-- The words of a sum. -/
def sumW (K : Nat → Wd) (v : Wds) (t : List UInt8) : Wds := blocksT K ((padT t).length / 64) v (padT t)
end Go.Proofs.Ytdjpeickokoclaa
