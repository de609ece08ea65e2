/-
  The reader of a drawn code: what one pick does to memory, and what it tells.
-/
import Derived.Test.YthedglgljehmgaaGreatDoorProg
import Derived.WalkKit
import Derived.WalkSpells
import Derived.WalkLawsBesides
import Derived.Deep.QuietTactic
import Derived.BigQuiet
import Derived.Lib.SmallJoins
import Derived.Deep.WholeRow
namespace Go.Proofs.YthedglgljehmgaaGreatDoor
open Go.RowKit
set_option linter.unusedVariables false
/-- What was there is as it was, but for one block. -/
structure Kept (blk : Nat) (w w' : World) : Prop where
  os : w'.os = w.os
  tape : w'.tape = w.tape
  output : w'.output = w.output
  size : w.heap.size ≤ w'.heap.size
  block : ∀ k, k < w.heap.size → k ≠ blk → w'.heap[k]? = w.heap[k]?
theorem Kept.refl (blk : Nat) (w : World) : Kept blk w w := ⟨rfl, rfl, rfl, Nat.le_refl _, fun _ _ _ => rfl⟩
theorem Kept.trans {blk : Nat} {a b c : World} (h : Kept blk a b) (k : Kept blk b c) : Kept blk a c :=
  ⟨k.os.trans h.os, k.tape.trans h.tape, k.output.trans h.output, Nat.le_trans h.size k.size, fun i hi hn => (k.block i (Nat.lt_of_lt_of_le hi h.size) hn).trans (h.block i hi hn)⟩
theorem Kept.of_below {blk : Nat} {a b : World} (h : Below a.heap.size a b) : Kept blk a b := ⟨h.os, h.tape, h.output, h.size, fun k hk _ => h.block k hk⟩
theorem Kept.drewN {blk : Nat} {a b : World} (h : Kept blk a b) (n : Nat) : Kept blk a (b.drewN n) := ⟨h.os, h.tape, h.output, h.size, h.block⟩
theorem Kept.alloc {blk : Nat} {a b : World} (h : Kept blk a b) (o : Obj) : Kept blk a (b.alloc o) :=
  h.trans (Kept.of_below ((Below.refl _ _).alloc (Nat.le_refl _) _))
theorem Kept.setCell {blk : Nat} {a b : World} (h : Kept blk a b) (i : Nat) (v : Value) : Kept blk a (b.setCell ⟨blk, i, none⟩ v) :=
  h.trans ⟨rfl, rfl, rfl, by simp, fun k _ hn => Below.heap_setCell b _ v k hn⟩
theorem Kept.cell {blk : Nat} {w w' : World} (h : Kept blk w w') {p : Addr} (hp : p.block < w.heap.size) (hn : p.block ≠ blk) : w'.cell? p = w.cell? p := World.cell?_of_block (w := w) (h.block p.block hp hn)
/-- Where the one block is new, nothing that was there has turned. -/
theorem Kept.below {blk : Nat} {w0 w w' : World} (h : Kept blk w w') (hb : Below w0.heap.size w0 w) (hn : w0.heap.size ≤ blk) : Below w0.heap.size w0 w' :=
  hb.trans ⟨h.os, h.tape, h.output, h.size, fun k hk => h.block k (Nat.lt_of_lt_of_le hk hb.size) (by omega)⟩
/-- A reader at its place: block blk holds the code, at most 2000 bytes of it, and how many were picked. -/
def RdAt (w : World) (blk : Nat) (p : Nat) : Prop :=
  ∃ (a : Option Addr) (len cap : Nat), w.heap[blk]? = some (.cells #[.slice a len cap, .int .i64 p] 75 (0, 0)) ∧ len ≤ 2000 ∧
    (len = 0 ∨ ∃ b off : Nat, a = some ⟨b, off, none⟩ ∧ b < blk ∧ ∀ i, i < len → ∃ z : Int, w.cell? ⟨b, off + i, none⟩ = some (.int .u8 z) ∧ 0 ≤ z ∧ z ≤ 255)
theorem RdAt.lt {w : World} {blk p : Nat} (h : RdAt w blk p) : blk < w.heap.size := by
  obtain ⟨a, len, cap, h1, _⟩ := h
  rcases Nat.lt_or_ge blk w.heap.size with hlt | hge
  · exact hlt
  · rw [Array.getElem?_eq_none hge] at h1; cases h1
/-- It stays where its own block does. -/
theorem RdAt.keep {w w' : World} {blk p : Nat} (h : RdAt w blk p) (hb : Below w.heap.size w w') : RdAt w' blk p := by
  have hlt := h.lt
  obtain ⟨a, len, cap, h1, h2, h3⟩ := h
  refine ⟨a, len, cap, (hb.block blk hlt).trans h1, h2, ?_⟩
  rcases h3 with h3 | ⟨b, off, ha, hb', hc⟩
  · exact .inl h3
  · refine .inr ⟨b, off, ha, hb', fun i hi => ?_⟩
    obtain ⟨z, hz, hz1⟩ := hc i hi
    exact ⟨z, (hb.cell (p := ⟨b, off + i, none⟩) (by show b < _; omega)).trans hz, hz1⟩
/-- One more was picked. -/
theorem RdAt.step {w : World} {blk p : Nat} (h : RdAt w blk p) (q : Nat) : RdAt (w.setCell ⟨blk, 1, none⟩ (.int .i64 q)) blk q := by
  have hlt := h.lt
  obtain ⟨a, len, cap, h1, h2, h3⟩ := h
  refine ⟨a, len, cap, ?_, h2, ?_⟩
  · rw [Go.Joins.block_setCell h1]; rfl
  · rcases h3 with h3 | ⟨b, off, ha, hb', hc⟩
    · exact .inl h3
    · refine .inr ⟨b, off, ha, hb', fun i hi => ?_⟩
      obtain ⟨z, hz, hz1⟩ := hc i hi
      refine ⟨z, ?_, hz1⟩
      rw [← hz]
      exact World.cell?_of_block (w := w) (Below.heap_setCell w _ _ _ (by show b ≠ blk; omega))
theorem RdAt.drewN {w : World} {blk p : Nat} (h : RdAt w blk p) (n : Nat) : RdAt (w.drewN n) blk p := h.keep ⟨rfl, rfl, rfl, Nat.le_refl _, fun _ _ => rfl⟩
theorem RdAt.alloc {w : World} {blk p : Nat} (h : RdAt w blk p) (o : Obj) : RdAt (w.alloc o) blk p := h.keep ((Below.refl _ _).alloc (Nat.le_refl _) _)
theorem xor_i64 (X Y : Int) (h0 : 0 ≤ X) (h1 : X < 4611686018427387904) (h2 : 0 ≤ Y) (h3 : Y < 4611686018427387904) : 0 ≤ bits .xor .i64 X Y ∧ bits .xor .i64 X Y < 4611686018427387904 := by
  obtain ⟨x, rfl⟩ := Int.eq_ofNat_of_zero_le h0
  obtain ⟨y, rfl⟩ := Int.eq_ofNat_of_zero_le h2
  have hx : x < 2 ^ 62 := by have : (2 : Nat) ^ 62 = 4611686018427387904 := by decide
                             omega
  have hy : y < 2 ^ 62 := by have : (2 : Nat) ^ 62 = 4611686018427387904 := by decide
                             omega
  have hz := Nat.xor_lt_two_pow hx hy
  have e : bits .xor .i64 (x : Int) (y : Int) = IntKind.i64.wrap ((x ^^^ y : Nat) : Int) := by
    unfold bits
    have e1 : (BitVec.ofInt IntKind.i64.bits (x : Int) ^^^ BitVec.ofInt IntKind.i64.bits (y : Int)).toNat = x ^^^ y := by
      have hb : IntKind.i64.bits = 64 := rfl
      rw [hb, BitVec.toNat_xor, BitVec.toNat_ofInt, BitVec.toNat_ofInt]
      congr 1 <;> omega
    simp only [e1]
  have h62 : (2 : Nat) ^ 62 = 4611686018427387904 := by decide
  rw [e, IntWalk.i64_in _ (by omega)]
  omega
set_option maxHeartbeats 1000000 in
theorem pick_any (w : World) (blk p : Nat) (n : Int) (h : RdAt w blk p) (hp : p ≤ 1000000) (hn : n ≤ 1000000) :
    Calls Tryz.prog 19 #[.pointer (some ⟨blk, 0, none⟩), .int .i64 n] w fun e w' => ∃ v : Int, e = .returned (.int .i64 v) ∧ 0 ≤ v ∧ (1 ≤ n → v < n) ∧ RdAt w' blk (p + 1) ∧ Kept blk w w' := by
  have HR : Hid (RdAt w blk p) := h
  obtain ⟨a, len, cap, h1, h2, h3⟩ := h
  have c0 : w.cell? ⟨blk, 0, none⟩ = some (.slice a len cap) := by rw [cell_of_row w blk 0 _ _ _ h1]; rfl
  have c1 : w.cell? ⟨blk, 1, none⟩ = some (.int .i64 p) := by rw [cell_of_row w blk 1 _ _ _ h1]; rfl
  have f1 := Go.Joins.unfrozen_of_block h1 1
  have HK : Hid (∀ m, Kept blk w ((w.setCell ⟨blk, 1, none⟩ (.int .i64 ((p + 1 : Nat) : Int))).drewN m)) := fun m => ((Kept.refl blk w).setCell 1 _).drewN m
  have HS : Hid (∀ m, RdAt ((w.setCell ⟨blk, 1, none⟩ (.int .i64 ((p + 1 : Nat) : Int))).drewN m) blk (p + 1)) := fun m => (HR.out.step (p + 1)).drewN m
  clear h1
  by_cases hn1 : n < 1
  · go_enter Tryz.func19, Tryz.ntmps19
    go_wp2
    go_ret
    exact ⟨0, rfl, by omega, fun h => absurd h (by omega), HS.out 0, HK.out 0⟩
  · by_cases hl : len = 0
    · subst hl
      go_enter Tryz.func19, Tryz.ntmps19
      go_wp2
      go_ret
      exact ⟨0, rfl, by omega, by omega, HS.out 0, HK.out 0⟩
    · obtain ⟨b, off, rfl, hbb, hcells⟩ : ∃ b off : Nat, a = some ⟨b, off, none⟩ ∧ b < blk ∧ ∀ i, i < len → ∃ z : Int, w.cell? ⟨b, off + i, none⟩ = some (.int .u8 z) ∧ 0 ≤ z ∧ z ≤ 255 := by
        rcases h3 with h3 | h3
        · exact absurd h3 hl
        · exact h3
      have hbn : ¬ b = blk := by omega
      have hl0 : ((len : Int) == 0) = false := by simp; omega
      have hn0 : ¬ n = 0 := by omega
      by_cases hk : p < len
      · obtain ⟨z, hz, hz0, hz1⟩ := hcells p hk
        clear hcells h3
        go_enter Tryz.func19, Tryz.ntmps19
        go_wp2
        go_ret
        exact ⟨z % n, rfl, Int.emod_nonneg _ hn0, Int.emod_lt_of_pos _ (by omega), HS.out 0, HK.out 0⟩
      · obtain ⟨j1, hj1⟩ : ∃ j : Nat, p % len = j := ⟨_, rfl⟩
        obtain ⟨j2, hj2⟩ : ∃ j : Nat, (p * 7 + 3) % len = j := ⟨_, rfl⟩
        obtain ⟨j3, hj3⟩ : ∃ j : Nat, p / len = j := ⟨_, rfl⟩
        have l1 : j1 < len := by rw [← hj1]; exact Nat.mod_lt _ (by omega)
        have l2 : j2 < len := by rw [← hj2]; exact Nat.mod_lt _ (by omega)
        have l3 : j3 ≤ p := by rw [← hj3]; exact Nat.div_le_self _ _
        obtain ⟨z1, hz1, hz10, hz11⟩ := hcells j1 l1
        obtain ⟨z2, hz2, hz20, hz21⟩ := hcells j2 l2
        have e1 : (p : Int).tmod (len : Int) = (j1 : Int) := by rw [← hj1]; rfl
        have e2 : ((p : Int) * 7 + 3).tmod (len : Int) = (j2 : Int) := by rw [← hj2]; rfl
        have e3 : (p : Int).tdiv (len : Int) = (j3 : Int) := by rw [← hj3]; rfl
        have e1' : (p : Int) % (len : Int) = (j1 : Int) := by rw [← hj1]; rfl
        have e2' : ((p : Int) * 7 + 3) % (len : Int) = (j2 : Int) := by rw [← hj2]; rfl
        have e3' : (p : Int) / (len : Int) = (j3 : Int) := by rw [← hj3]; rfl
        have m1 : (j1 : Int) < (len : Int) := by omega
        have m2 : (j2 : Int) < (len : Int) := by omega
        clear hcells h3 hj1 hj2 hj3
        go_enter Tryz.func19, Tryz.ntmps19
        go_wp2
        go_quiet (fail)
        go_wp2
        have hx := xor_i64 (z1 * 131 + z2 * 1117 + (p : Int) * 29 + (j3 : Int) * 53) ((z1 * 131 + z2 * 1117 + (p : Int) * 29 + (j3 : Int) * 53) / 64) (by omega) (by omega) (by omega) (by omega)
        go_ret
        exact ⟨_, rfl, Int.tmod_nonneg _ hx.1, fun _ => Int.tmod_lt_of_pos _ (by omega), HS.out _, HK.out _⟩
set_option maxHeartbeats 1000000 in
/-- One of a list of texts, of each of which something holds. -/
theorem of_any (P : ByteArray → Prop) (w : World) (blk p g n cap : Nat) (h : RdAt w blk p) (hp : p ≤ 1000000) (hn : 1 ≤ n) (hn' : n ≤ 1000)
    (hc : ∀ i, i < n → ∃ s, w.cell? ⟨g, i, none⟩ = some (.string s) ∧ P s) (hg : g ≠ blk) :
    Calls Tryz.prog 20 #[.pointer (some ⟨blk, 0, none⟩), .slice (some ⟨g, 0, none⟩) n cap] w fun e w' => ∃ s, e = .returned (.string s) ∧ P s ∧ RdAt w' blk (p + 1) ∧ Kept blk w w' := by
  have HC : Hid (∀ i, i < n → ∃ s, w.cell? ⟨g, i, none⟩ = some (.string s) ∧ P s) := hc
  clear hc
  go_enter Tryz.func20, Tryz.ntmps20
  go_wp2_with fail
  refine (pick_any w blk p n h hp (by omega)).mono ?_
  rintro e w1 ⟨v, rfl, hv0, hv1, hr1, hk1⟩
  obtain ⟨i, rfl⟩ := Int.eq_ofNat_of_zero_le hv0
  have hi : i < n := by have := hv1 (by omega); omega
  obtain ⟨s, hs, hP⟩ := HC.out i hi
  have hs1 : w1.cell? ⟨g, i, none⟩ = some (.string s) := by
    rw [hk1.cell (p := ⟨g, i, none⟩) ?_ hg]
    · exact hs
    · show g < w.heap.size
      rcases Nat.lt_or_ge g w.heap.size with hlt | hge
      · exact hlt
      · unfold World.cell? at hs
        rw [Array.getElem?_eq_none hge] at hs
        simp at hs
  have HR : Hid (RdAt w1 blk (p + 1)) := hr1
  have HP : Hid (P s) := hP
  clear hv1 hr1 hP hs
  go_wp2
  go_ret
  exact ⟨s, rfl, HP.out, HR.out, hk1⟩
end Go.Proofs.YthedglgljehmgaaGreatDoor
