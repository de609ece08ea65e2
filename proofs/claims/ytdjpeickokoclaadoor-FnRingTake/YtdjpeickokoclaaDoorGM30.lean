/-
  Words of 32 bits.
-/
import Derived.Test.YtdjpeickokoclaaDoorProg
import Derived.WalkKit
import Derived.WalkSpells
import Derived.WalkLawsBesides
import Derived.Lib.SmallJoins
import Derived.Deep.QuietTactic
import Derived.BigQuiet
import Derived.Below
import Derived.Deep.WholeRow
import Derived.Deep.OwnRows
import Derived.Deep.RegionHeld3
namespace Go.Proofs.YtdjpeickokoclaaDoor
open Go.RowKit
set_option linter.unusedVariables false
abbrev Wd := BitVec 32
theorem below_dn {B : Nat} {a w : World} (h : Below B a w) (n : Nat) : Below B a (w.drewN n) := by
  induction n with
  | zero => exact h
  | succ n ih => exact ih.drew
theorem wd_wrap (x : Int) : IntKind.u32.wrap x = x % 4294967296 := by
  simp [IntKind.wrap, IntKind.signed, IntKind.bits]
theorem wd_ofInt (a : Wd) : BitVec.ofInt 32 (a.toNat : Int) = a := by
  rw [BitVec.ofInt_natCast, BitVec.ofNat_toNat]
  simp
theorem wd_lt (a : Wd) : (a.toNat : Int) % 4294967296 = a.toNat := by
  have := a.isLt
  omega
/-- A word's number, kept shut. -/
def wn (a : Wd) : Int := (a.toNat : Int)
theorem wn_xor (a b : Wd) : bits .xor .u32 (wn a) (wn b) = wn (a ^^^ b) := by
  show IntKind.u32.wrap ((BitVec.ofInt 32 (a.toNat : Int) ^^^ BitVec.ofInt 32 (b.toNat : Int)).toNat : Int) = ((a ^^^ b).toNat : Int)
  rw [wd_ofInt, wd_ofInt, wd_wrap, wd_lt]
theorem wn_and (a b : Wd) : bits .and .u32 (wn a) (wn b) = wn (a &&& b) := by
  show IntKind.u32.wrap ((BitVec.ofInt 32 (a.toNat : Int) &&& BitVec.ofInt 32 (b.toNat : Int)).toNat : Int) = ((a &&& b).toNat : Int)
  rw [wd_ofInt, wd_ofInt, wd_wrap, wd_lt]
theorem wn_or (a b : Wd) : bits .or .u32 (wn a) (wn b) = wn (a ||| b) := by
  show IntKind.u32.wrap ((BitVec.ofInt 32 (a.toNat : Int) ||| BitVec.ofInt 32 (b.toNat : Int)).toNat : Int) = ((a ||| b).toNat : Int)
  rw [wd_ofInt, wd_ofInt, wd_wrap, wd_lt]
theorem wn_not (a : Wd) : bits .xor .u32 4294967295 (wn a) = wn (~~~a) := by
  show IntKind.u32.wrap ((BitVec.ofInt 32 4294967295 ^^^ BitVec.ofInt 32 (a.toNat : Int)).toNat : Int) = ((~~~a).toNat : Int)
  rw [wd_ofInt, wd_wrap, wd_lt, show BitVec.ofInt 32 4294967295 = BitVec.allOnes 32 from by decide, BitVec.allOnes_xor]
theorem wn_add (a b : Wd) : IntKind.u32.wrap (wn a + wn b) = wn (a + b) := by
  rw [wd_wrap]
  show ((a.toNat : Int) + (b.toNat : Int)) % 4294967296 = ((a + b).toNat : Int)
  rw [BitVec.toNat_add, show (2 : Nat) ^ 32 = 4294967296 from rfl]
  omega
theorem wn_shr (a : Wd) (k : Nat) : wn a / (2 : Int) ^ k = wn (a >>> k) := by
  show (a.toNat : Int) / (2 : Int) ^ k = ((a >>> k).toNat : Int)
  rw [BitVec.toNat_ushiftRight, Nat.shiftRight_eq_div_pow, Int.natCast_ediv, Int.natCast_pow]
  rfl
theorem wn_shl (a : Wd) (k : Nat) : IntKind.u32.wrap (wn a * (2 : Int) ^ k) = wn (a <<< k) := by
  rw [wd_wrap]
  show (a.toNat : Int) * (2 : Int) ^ k % 4294967296 = ((a <<< k).toNat : Int)
  rw [BitVec.toNat_shiftLeft, Nat.shiftLeft_eq, Int.natCast_emod, Int.natCast_mul, Int.natCast_pow]
  rfl
theorem wn_range (a : Wd) : 0 ≤ wn a ∧ wn a ≤ 4294967295 := by
  have := a.isLt
  unfold wn
  omega
def ror (a : Wd) (n : Nat) : Wd := (a >>> n) ||| (a <<< (32 - n))
theorem u64_neg (n : Nat) (h : 1 ≤ n) (h' : n ≤ 31) : bits .and .u64 (IntKind.u64.wrap (-(n : Int))) 31 = ((32 - n : Nat) : Int) := by
  have : ∀ m : Fin 31, bits .and .u64 (IntKind.u64.wrap (-((m.val + 1 : Nat) : Int))) 31 = ((32 - (m.val + 1) : Nat) : Int) := by decide +kernel
  have h2 := this ⟨n - 1, by omega⟩
  simp only [show n - 1 + 1 = n by omega] at h2
  exact h2
set_option maxHeartbeats 1000000 in
theorem rotate_any (a : Wd) (n : Nat) (h : 1 ≤ n) (h' : n ≤ 31) (w : World) :
    Calls Tryd.prog 75 #[.int .u32 (wn a), .int .i64 (-(n : Int))] w fun e w' => e = .returned (.int .u32 (wn (ror a n))) ∧ w' = w := by
  have h1 := u64_neg n h h'
  obtain ⟨m, hm⟩ : ∃ m, 32 - n = m := ⟨_, rfl⟩
  rw [hm] at h1
  have hn : n = 32 - m := by omega
  have hm1 : (m : Int) ≤ 31 := by omega
  have hm0 : (0 : Int) ≤ (m : Int) := by omega
  have h2 : IntKind.u64.wrap (32 - (m : Int)) = (n : Int) := by
    simp only [IntKind.wrap, IntKind.signed, IntKind.bits]
    simp
    omega
  have h3 := wn_shl a m
  have h4 := wn_shr a n
  have h5 := wn_or (a <<< m) (a >>> n)
  have H6 : Hid (((a <<< m) ||| (a >>> n)) = ror a n) := by show _ = _; unfold ror; rw [hm]; exact BitVec.or_comm _ _
  clear hn hm
  go_enter Tryd.func75, Tryd.ntmps75
  go_wp2
  go_ret
  exact ⟨by rw [← H6.out]; rfl, rfl⟩
set_option maxHeartbeats 1000000 in
theorem right_any (a : Wd) (n : Nat) (h : 1 ≤ n) (h' : n ≤ 31) (w : World) :
    Calls Tryd.prog 69 #[.int .u32 (wn a), .int .i64 (n : Int)] w fun e w' => e = .returned (.int .u32 (wn (ror a n))) ∧ w' = w := by
  go_enter Tryd.func69, Tryd.ntmps69
  go_wp2_with fail
  refine (rotate_any a n h h' _).mono ?_
  rintro e w1 ⟨rfl, he⟩
  rw [he]
  go_wp2
  go_ret
  exact ⟨rfl, rfl⟩
set_option maxHeartbeats 1000000 in
theorem turn_any (a : Wd) (n : Nat) (h : 1 ≤ n) (h' : n ≤ 31) (w : World) :
    Calls Tryd.prog 63 #[.int .u32 (wn a), .int .i64 (n : Int)] w fun e w' => e = .returned (.int .u32 (wn (ror a n))) ∧ Below w.heap.size w w' := by
  obtain ⟨m, hm⟩ : ∃ m, 32 - n = m := ⟨_, rfl⟩
  have hm1 : (32 : Int) - (n : Int) = (m : Int) := by omega
  have hm0 : (0 : Int) ≤ (m : Int) := by omega
  have hm2 : (m : Int) ≤ 32 := by omega
  have hn0 : (0 : Int) ≤ (n : Int) := by omega
  have hn2 : (n : Int) ≤ 32 := by omega
  have h3 := wn_shl a m
  have h4 := wn_shr a n
  have h5 := wn_or (a >>> n) (a <<< m)
  have H6 : Hid (((a >>> n) ||| (a <<< m)) = ror a n) := by show _ = _; unfold ror; rw [hm]
  clear hm
  go_enter Tryd.func63, Tryd.ntmps63
  go_wp2_with fail
  go_quiet (fail)
  go_wp2
  go_ret
  exact ⟨by rw [← H6.out]; rfl, below_dn (Below.refl _ _) _⟩
end Go.Proofs.YtdjpeickokoclaaDoor
/-
  A round of a sum.
-/
namespace Go.Proofs.YtdjpeickokoclaaDoor
open Go.RowKit
set_option linter.unusedVariables false
/-- Eight words. -/
structure Wds where
  (a b c d e f g h : Wd)
def Wds.vals (v : Wds) : Array Value := #[.int .u32 (wn v.a), .int .u32 (wn v.b), .int .u32 (wn v.c), .int .u32 (wn v.d), .int .u32 (wn v.e), .int .u32 (wn v.f), .int .u32 (wn v.g), .int .u32 (wn v.h)]
def oneT (v : Wds) (put : Wd) : Wd := v.h + put + (ror v.e 6 ^^^ ror v.e 11 ^^^ ror v.e 25) + ((v.e &&& v.f) ^^^ (~~~v.e &&& v.g))
def twoT (v : Wds) : Wd := (ror v.a 2 ^^^ ror v.a 13 ^^^ ror v.a 22) + ((v.a &&& v.b) ^^^ (v.a &&& v.c) ^^^ (v.b &&& v.c))
def stirT (v : Wds) (put : Wd) : Wds := ⟨oneT v put + twoT v, v.a, v.b, v.c, v.d + oneT v put, v.e, v.f, v.g⟩
set_option maxRecDepth 100000 in
set_option maxHeartbeats 2000000 in
theorem stirred_any (v : Wds) (put : Wd) (w : World) :
    Calls Tryd.prog 65 #[.agg v.vals, .int .u32 (wn put)] w fun e w' => e = .returned (.agg (stirT v put).vals) ∧ Below w.heap.size w w' := by
  obtain ⟨a, b, c, d, e, f, g, h⟩ := v
  have hx := wn_xor
  have ha := wn_and
  have hn : ∀ a : Wd, bits .xor .u32 (if IntKind.u32.signed = true then -1 else IntKind.u32.max) (wn a) = wn (~~~a) := fun a => wn_not a
  have hd := wn_add
  have HS : Hid (∀ x y, x = oneT ⟨a, b, c, d, e, f, g, h⟩ put → y = twoT ⟨a, b, c, d, e, f, g, h⟩ → stirT ⟨a, b, c, d, e, f, g, h⟩ put = ⟨x + y, a, b, c, d + x, e, f, g⟩) := fun x y hx hy => by rw [hx, hy]; rfl
  unfold Wds.vals
  dsimp only
  go_enter Tryd.func65, Tryd.ntmps65
  go_wp2_with fail
  go_quiet (fail)
  go_wp2_with fail
  go_quiet ((go_at_call 69; first | (refine (right_any e 6 (by omega) (by omega) _).mono ?_; rintro e w'' ⟨rfl, rfl⟩; exact ⟨rfl, _, rfl⟩) | (refine (right_any e 11 (by omega) (by omega) _).mono ?_; rintro e w'' ⟨rfl, rfl⟩; exact ⟨rfl, _, rfl⟩) | (refine (right_any e 25 (by omega) (by omega) _).mono ?_; rintro e w'' ⟨rfl, rfl⟩; exact ⟨rfl, _, rfl⟩)))
  obtain ⟨one, hone⟩ : ∃ x, h + put + (ror e 6 ^^^ ror e 11 ^^^ ror e 25) + ((e &&& f) ^^^ (~~~e &&& g)) = x := ⟨_, rfl⟩
  have HONE : Hid (one = oneT ⟨a, b, c, d, e, f, g, h⟩ put) := hone.symm
  rw [hone]
  clear hone
  go_wp2_with (go_at_call 69; first | (refine (right_any a 2 (by omega) (by omega) _).mono ?_; rintro e w'' ⟨rfl, he⟩; rw [he]; clear he) | (refine (right_any a 13 (by omega) (by omega) _).mono ?_; rintro e w'' ⟨rfl, he⟩; rw [he]; clear he) | (refine (right_any a 22 (by omega) (by omega) _).mono ?_; rintro e w'' ⟨rfl, he⟩; rw [he]; clear he))
  obtain ⟨two, htwo⟩ : ∃ x, (ror a 2 ^^^ ror a 13 ^^^ ror a 22) + ((a &&& b) ^^^ (a &&& c) ^^^ (b &&& c)) = x := ⟨_, rfl⟩
  rw [htwo]
  have HT := HS.out one two HONE.out htwo.symm
  rw [HT]
  dsimp only
  clear htwo HT
  refine bodyPost_ret (v := .agg #[.int .u32 (wn (one + two)), .int .u32 (wn a), .int .u32 (wn b), .int .u32 (wn c), .int .u32 (wn (d + one)), .int .u32 (wn e), .int .u32 (wn f), .int .u32 (wn g)]) (by simp [results, Tryd.results65, go_sem]) rfl ⟨rfl, ?_⟩
  have B0 : Below w.heap.size w ((w.alloc (.cells #[.int .u32 (wn a), .int .u32 (wn b), .int .u32 (wn c), .int .u32 (wn d), .int .u32 (wn e), .int .u32 (wn f), .int .u32 (wn g), .int .u32 (wn h)] 71)).alloc (.cells #[.int .u32 0, .int .u32 0, .int .u32 0, .int .u32 0, .int .u32 0, .int .u32 0, .int .u32 0, .int .u32 0] 71)) := ((Below.refl _ _).alloc (Nat.le_refl _) _).alloc (by simp) _
  have L : ∀ (W : World) (o : Nat) (u : Value), Below w.heap.size w W → Below w.heap.size w (W.setCell ⟨w.heap.size + 1, o, none⟩ u) := fun W o u h => h.setCell (p := ⟨w.heap.size + 1, o, none⟩) (Nat.le_succ _) _
  exact L _ _ _ (L _ _ _ (L _ _ _ (L _ _ _ (L _ _ _ (L _ _ _ (L _ _ _ (L _ _ _ (below_dn B0 _))))))))
end Go.Proofs.YtdjpeickokoclaaDoor
/-
  A sum: its rounds, its blocks, and bytes put one by one.
-/
namespace Go.Proofs.YtdjpeickokoclaaDoor
set_option linter.unusedVariables false
/-- A byte as a word. -/
def bw (b : UInt8) : Wd := BitVec.ofNat 32 b.toNat
def w4 (a b c d : UInt8) : Wd := (bw a <<< 24) ||| (bw b <<< 16) ||| (bw c <<< 8) ||| bw d
def sg0 (x : Wd) : Wd := ror x 7 ^^^ ror x 18 ^^^ (x >>> 3)
def sg1 (x : Wd) : Wd := ror x 17 ^^^ ror x 19 ^^^ (x >>> 10)
def bAt (bs : List UInt8) (i : Nat) : UInt8 := bs.getD i 0
def wAt (l : List Wd) (i : Nat) : Wd := l.getD i 0
/-- The words of a block, the first so many. -/
def schedTo (bs : List UInt8) : Nat → List Wd
  | 0 => []
  | k + 1 => schedTo bs k ++ [if k < 16 then w4 (bAt bs (4 * k)) (bAt bs (4 * k + 1)) (bAt bs (4 * k + 2)) (bAt bs (4 * k + 3)) else wAt (schedTo bs k) (k - 16) + wAt (schedTo bs k) (k - 7) + sg0 (wAt (schedTo bs k) (k - 15)) + sg1 (wAt (schedTo bs k) (k - 2))]
theorem schedTo_len (bs : List UInt8) : ∀ k, (schedTo bs k).length = k
  | 0 => rfl
  | k + 1 => by rw [schedTo, List.length_append, schedTo_len bs k]; rfl
/-- What was a word stays it. -/
theorem schedTo_old (bs : List UInt8) {i k : Nat} (h : i < k) : wAt (schedTo bs (k + 1)) i = wAt (schedTo bs k) i := by
  unfold wAt
  rw [schedTo, List.getD_eq_getElem?_getD, List.getD_eq_getElem?_getD, List.getElem?_append_left (by rw [schedTo_len]; exact h)]
def addW (x y : Wds) : Wds := ⟨x.a + y.a, x.b + y.b, x.c + y.c, x.d + y.d, x.e + y.e, x.f + y.f, x.g + y.g, x.h + y.h⟩
/-- The rounds of a block, the first so many; K: the words of the rounds. -/
def roundsT (K : Nat → Wd) (bs : List UInt8) (v : Wds) : Nat → Wds
  | 0 => v
  | k + 1 => stirT (roundsT K bs v k) (K k + wAt (schedTo bs 64) k)
def mixT (K : Nat → Wd) (v : Wds) (bs : List UInt8) : Wds := addW v (roundsT K bs v 64)
/-- Whole blocks, one behind the other. -/
def blocksT (K : Nat → Wd) : Nat → Wds → List UInt8 → Wds
  | 0, v, _ => v
  | n + 1, v, l => blocksT K n (mixT K v (l.take 64)) (l.drop 64)
/-- Bytes put one by one: the words of whole blocks, and what is filled of the next. -/
def pushB (K : Nat → Wd) (s : Wds × List UInt8) (b : UInt8) : Wds × List UInt8 := if s.2.length + 1 = 64 then (mixT K s.1 (s.2 ++ [b]), []) else (s.1, s.2 ++ [b])
def pushT (K : Nat → Wd) (s : Wds × List UInt8) (l : List UInt8) : Wds × List UInt8 := l.foldl (pushB K) s
theorem pushT_append (K : Nat → Wd) (s : Wds × List UInt8) (l m : List UInt8) : pushT K s (l ++ m) = pushT K (pushT K s l) m := List.foldl_append
/-- As long as a block is not full, bytes stand behind those that are there. -/
theorem pushT_short (K : Nat → Wd) (v : Wds) : ∀ (l f : List UInt8), f.length + l.length < 64 → pushT K (v, f) l = (v, f ++ l)
  | [], f, _ => by simp [pushT]
  | b :: l, f, h => by
    simp only [List.length_cons] at h
    have h1 : pushB K (v, f) b = (v, f ++ [b]) := if_neg (by show ¬ f.length + 1 = 64; omega)
    show pushT K (pushB K (v, f) b) l = _
    rw [h1, pushT_short K v l (f ++ [b]) (by simp; omega)]
    simp
/-- Up to a full block, and it is mixed. -/
theorem pushT_full (K : Nat → Wd) (v : Wds) : ∀ (l f : List UInt8), f.length + l.length = 64 → l ≠ [] → pushT K (v, f) l = (mixT K v (f ++ l), [])
  | [], _, _, h => absurd rfl h
  | b :: l, f, h, _ => by
    simp only [List.length_cons] at h
    show pushT K (pushB K (v, f) b) l = _
    by_cases e : l = []
    · subst e
      have h1 : pushB K (v, f) b = (mixT K v (f ++ [b]), []) := if_pos (by show f.length + 1 = 64; simpa using h)
      rw [h1]
      rfl
    · have hl : 0 < l.length := List.length_pos_iff.2 e
      have h1 : pushB K (v, f) b = (v, f ++ [b]) := if_neg (by show ¬ f.length + 1 = 64; omega)
      rw [h1, pushT_full K v l (f ++ [b]) (by simp; omega) e]
      simp
/-- Whole blocks put byte by byte. -/
theorem pushT_blocks (K : Nat → Wd) : ∀ (n : Nat) (v : Wds) (l : List UInt8), l.length = 64 * n → pushT K (v, []) l = (blocksT K n v l, [])
  | 0, v, l, h => by
    have : l = [] := List.length_eq_zero_iff.1 (by omega)
    subst this
    rfl
  | n + 1, v, l, h => by
    have h1 : (l.take 64).length = 64 := by rw [List.length_take]; omega
    have h2 : (l.drop 64).length = 64 * n := by rw [List.length_drop]; omega
    have h3 : l.take 64 ≠ [] := fun e => by rw [e] at h1; simp at h1
    have h4 := pushT_full K v (l.take 64) [] (by simpa using h1) h3
    have h5 := pushT_blocks K n (mixT K v (l.take 64)) (l.drop 64) h2
    have h6 : pushT K (v, []) l = pushT K (pushT K (v, []) (l.take 64)) (l.drop 64) := by rw [← pushT_append, List.take_append_drop]
    rw [h6, h4, List.nil_append, h5]
    rfl
/-- How many bytes of 0 stand behind the bit. -/
def zerosN (n : Nat) : Nat := (119 - n % 64) % 64
theorem zerosN_at (n : Nat) : (n + 1 + zerosN n) % 64 = 56 := by unfold zerosN; omega
/-- The eight bytes of a size, the highest first. -/
def size8 (n : Nat) : List UInt8 := [56, 48, 40, 32, 24, 16, 8, 0].map fun s => UInt8.ofNat (n >>> s)
def padT (t : List UInt8) : List UInt8 := t ++ [128] ++ List.replicate (zerosN t.length) 0 ++ size8 (t.length * 8)
theorem padT_len (t : List UInt8) : (padT t).length % 64 = 0 := by
  have h := zerosN_at t.length
  unfold padT size8
  simp only [List.length_append, List.length_cons, List.length_nil, List.length_replicate, List.length_map]
  omega
def bytesOf (v : Wds) : List Wd := [v.a, v.b, v.c, v.d, v.e, v.f, v.g, v.h]
/-- The words of a sum. -/
def sumW (K : Nat → Wd) (v : Wds) (t : List UInt8) : Wds := blocksT K ((padT t).length / 64) v (padT t)
theorem sumW_push (K : Nat → Wd) (v : Wds) (t : List UInt8) : pushT K (v, []) (padT t) = (sumW K v t, []) := by
  have h := padT_len t
  exact pushT_blocks K ((padT t).length / 64) v (padT t) (by omega)
end Go.Proofs.YtdjpeickokoclaaDoor
