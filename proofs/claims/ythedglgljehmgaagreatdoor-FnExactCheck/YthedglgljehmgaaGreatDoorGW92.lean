/-
  Slices of texts in memory: held against each other (eqStringS), marked (markText).
-/
import Derived.Test.YthedglgljehmgaaGreatDoorProg
import Derived.Deep.QuietTactic
import Derived.BigQuiet
import Derived.WalkKit
import Derived.WalkSpells
import Derived.WalkLawsBesides
import Derived.Lib.SmallJoins
import Derived.Deep.WholeRow
import Derived.Deep.OwnRows
import Derived.Deep.RegionWith
import Derived.Laws.BytesArg
namespace Go.Proofs.YthedglgljehmgaaGreatDoor
open Go.RowKit
set_option linter.unusedVariables false
/-- A slice of texts. -/
def TextsAt (w : World) (v : Value) (xs : List ByteArray) : Prop :=
  ∃ a cap, v = .slice a xs.length cap ∧ xs.length ≤ cap ∧ xs.length ≤ maxLen ∧ (∀ (i : Nat) (x : ByteArray), xs[i]? = some x → x.size ≤ maxLen) ∧
    (xs ≠ [] → ∃ b off, a = some ⟨b, off, none⟩ ∧ b < w.heap.size ∧ ∀ (i : Nat) (x : ByteArray), xs[i]? = some x → w.cell? ⟨b, off + i, none⟩ = some (.string x))
theorem TextsAt.below {w w' : World} {v : Value} {xs : List ByteArray} (h : TextsAt w v xs) (hb : Below w.heap.size w w') : TextsAt w' v xs := by
  obtain ⟨a, cap, hv, hc, hm, hf, hh⟩ := h
  refine ⟨a, cap, hv, hc, hm, hf, fun hn => ?_⟩
  obtain ⟨b, off, ha, h2, h3⟩ := hh hn
  exact ⟨b, off, ha, Nat.lt_of_lt_of_le h2 hb.size, fun i x hx => (hb.cell (p := ⟨b, off + i, none⟩) h2).trans (h3 i x hx)⟩
theorem TextsAt.form {w : World} {v : Value} {xs : List ByteArray} (h : TextsAt w v xs) : ∃ a cap, v = .slice a xs.length cap ∧ xs.length ≤ cap ∧ xs.length ≤ maxLen := by
  obtain ⟨a, cap, hv, hc, hm, hf, hh⟩ := h
  exact ⟨a, cap, hv, hc, hm⟩
theorem not_nil90 {α : Type} {l : List α} {i : Nat} {x : α} (h : l[i]? = some x) : l ≠ [] := by rintro rfl; simp at h
theorem TextsAt.at {w : World} {v : Value} {xs : List ByteArray} (h : TextsAt w v xs) {k : Nat} (hk : k < xs.length) :
    ∃ b off cap x, v = .slice (some ⟨b, off, none⟩) xs.length cap ∧ b < w.heap.size ∧ xs[k]? = some x ∧ x.size ≤ maxLen ∧ w.cell? ⟨b, off + k, none⟩ = some (.string x) := by
  obtain ⟨a, cap, hv, hc, hm, hf, hh⟩ := h
  have he := List.getElem?_eq_getElem hk
  obtain ⟨b, off, rfl, h2, h3⟩ := hh (not_nil90 he)
  exact ⟨b, off, cap, _, hv, h2, he, hf k _ he, h3 k _ he⟩
/-- Digits of a number, ahead of a text. -/
def digT : Nat → Nat → List UInt8 → List UInt8
  | 0, _, acc => acc
  | f + 1, n, acc => if n = 0 then acc else digT f (n / 10) (UInt8.ofNat (48 + n % 10) :: acc)
/-- The mark of a number. -/
def markT (n : Nat) : ByteArray := if n = 0 then ⟨#[109, 48]⟩ else ⟨(109 :: digT 20 n []).toArray⟩
end Go.Proofs.YthedglgljehmgaaGreatDoor
/-
  Marks: markText.
-/
namespace Go.Proofs.YthedglgljehmgaaGreatDoor
open Go.RowKit
set_option linter.unusedVariables false
theorem conv_dig (d b : Nat) (x : Int) (hx : x = 48 + (d : Int)) (wx : World) (h : wx.cell? ⟨b, 0, none⟩ = some (.int .u8 x)) :
    (convert 22 9 (.slice (some ⟨b, 0, none⟩) 1 1)).run Tryz.prog wx = .ok (.string ⟨#[UInt8.ofNat (48 + d)]⟩) wx := by
  subst hx
  have h1 := run_convert_bytes_arg (P := Tryz.prog) wx 22 5 Tryz.underlying22 Tryz.underlying5 b 0 1 1 [48 + (d : Int)] rfl (fun i hi => by
    have : i = 0 := by omega
    subst this
    exact h) 9 Tryz.underlying9
  rw [h1]
  have e : (48 + (d : Int)).toNat = 48 + d := by omega
  simp [strOfNums, e]
theorem digT_zero (f : Nat) (acc : List UInt8) : digT f 0 acc = acc := by cases f <;> simp [digT]
theorem digT_succ {f n : Nat} {acc : List UInt8} (h : 0 < n) : digT (f + 1) n acc = digT f (n / 10) (UInt8.ofNat (48 + n % 10) :: acc) := if_neg (by omega)
theorem app_one (c : UInt8) (acc : List UInt8) : (⟨#[c]⟩ : ByteArray) ++ ⟨acc.toArray⟩ = ⟨(c :: acc).toArray⟩ := by
  apply ByteArray.ext
  simp
theorem size_toArr (acc : List UInt8) : (⟨acc.toArray⟩ : ByteArray).size = acc.length := by simp [ByteArray.size]
theorem digT_length : ∀ (f n : Nat) (acc : List UInt8), (digT f n acc).length ≤ acc.length + f
  | 0, _, acc => by simp [digT]
  | f + 1, n, acc => by
    unfold digT
    split
    · omega
    · have := digT_length f (n / 10) (UInt8.ofNat (48 + n % 10) :: acc)
      rw [List.length_cons] at this
      omega
set_option maxHeartbeats 2000000 in
theorem markText_any (N : Nat) (hN : N < 9000000000000000000) (w : World) :
    Calls Tryz.prog 42 #[.int .i64 N] w fun e w' => e = .returned (.string (markT N)) ∧ Below w.heap.size w w' := by
  by_cases h0 : N = 0
  · subst h0
    go_enter Tryz.func42, Tryz.ntmps42
    go_wp2
    go_ret
    exact ⟨rfl, Below.refl _ _⟩
  · have HM : Hid (markT N = ⟨(109 :: digT 20 N []).toArray⟩) := if_neg h0
    have hp : 0 < N := by omega
    go_enter Tryz.func42, Tryz.ntmps42
    go_wp2
    go_loopw [0, 3] (fun kv o wr => ∃ (j n : Nat) (acc : List UInt8), kv = .int .i64 n ∧ o = .string ⟨acc.toArray⟩ ∧ n < 10 ^ j ∧ n < 9000000000000000000 ∧ acc.length + j ≤ 19 ∧ digT 20 N [] = digT (j + 1) n acc ∧ Below w.heap.size w wr) (fun kv _ _ => (intOf kv).toNat)
    case atStart => exact ⟨19, N, [], rfl, rfl, by omega, hN, by simp, rfl, Below.refl _ _⟩
    case round =>
      obtain ⟨j, n, acc, rfl, rfl, hj, hn, hl, hd, hb⟩ := hrel
      have HB : Hid (Below w.heap.size w wr) := hb
      have HD : Hid (digT 20 N [] = digT (j + 1) n acc) := hd
      have HJ : Hid (n < 10 ^ j) := hj
      clear hb hd hj
      have hz : (⟨acc.toArray⟩ : ByteArray).size ≤ 19 := by rw [size_toArr]; omega
      by_cases hlt : 0 < n
      · have hc := conv_dig (n % 10)
        go_wp2
        go_roundw
        case rel =>
          have hj := HJ.out
          cases j with
          | zero => simp at hj; omega
          | succ j =>
            have hd := HD.out
            rw [digT_succ hlt] at hd
            refine ⟨j, n / 10, UInt8.ofNat (48 + n % 10) :: acc, by rw [Int.natCast_ediv]; rfl, ?_, by rw [Nat.pow_succ] at hj; omega, by omega, by rw [List.length_cons]; omega, hd, HB.out.alloc HB.out.size _⟩
            rw [← app_one, UInt8.ofNat_add]
            rfl
        case measure => simp [intOf]; omega
      · have hn0 : n = 0 := by omega
        subst hn0
        go_wp2
        go_ret
        refine ⟨?_, HB.out⟩
        rw [HM.out, HD.out, digT_zero, ← app_one]
        rfl
end Go.Proofs.YthedglgljehmgaaGreatDoor
/-
  Slices of texts marked and held: markStringS, heldStringS.
-/
namespace Go.Proofs.YthedglgljehmgaaGreatDoor
open Go.RowKit
set_option linter.unusedVariables false
/-- A slice of texts that may be written, from block lo on. -/
def TextsOwn (lo : Nat) (w : World) (v : Value) (xs : List ByteArray) : Prop :=
  ∃ a cap, v = .slice a xs.length cap ∧ xs.length ≤ cap ∧ cap ≤ maxLen ∧ (∀ (i : Nat) (x : ByteArray), xs[i]? = some x → x.size ≤ maxLen) ∧
    (xs ≠ [] → ∃ g n f, a = some ⟨g, 0, none⟩ ∧ lo ≤ g ∧ xs.length ≤ n ∧ w.rowIs g 9 n f ∧ ∀ (i : Nat) (x : ByteArray), xs[i]? = some x → f i = .string x)
theorem TextsOwn.at {lo : Nat} {w : World} {v : Value} {xs : List ByteArray} (h : TextsOwn lo w v xs) : TextsAt w v xs := by
  obtain ⟨a, cap, hv, hc, hm, hf, hh⟩ := h
  refine ⟨a, cap, hv, hc, Nat.le_trans hc hm, hf, fun hn => ?_⟩
  obtain ⟨g, n, f, ha, _, hle, hr, hx⟩ := hh hn
  refine ⟨g, 0, ha, hr.lt, fun i x hi => ?_⟩
  have hlt : i < xs.length := (List.getElem?_eq_some_iff.1 hi).1
  rw [Nat.zero_add, hr.cell (by omega), hx i x hi]
theorem TextsOwn.below {lo : Nat} {w w' : World} {v : Value} {xs : List ByteArray} (h : TextsOwn lo w v xs) (hb : Below w.heap.size w w') : TextsOwn lo w' v xs := by
  obtain ⟨a, cap, hv, hc, hm, hf, hh⟩ := h
  refine ⟨a, cap, hv, hc, hm, hf, fun hn => ?_⟩
  obtain ⟨g, n, f, ha, hlo, hle, hr, hx⟩ := hh hn
  exact ⟨g, n, f, ha, hlo, hle, hr.of_block (hb.block g hr.lt), hx⟩
/-- So many marks. -/
def marks (k n : Nat) : List ByteArray := (List.range n).map fun i => markT (k + i)
theorem marks_length (k n : Nat) : (marks k n).length = n := by simp [marks]
theorem marks_at {k n i : Nat} (h : i < n) : (marks k n)[i]? = some (markT (k + i)) := by simp [marks, h]
theorem markT_size (n : Nat) : (markT n).size ≤ 21 := by
  unfold markT
  split
  · decide
  · rw [size_toArr, List.length_cons]
    have := digT_length 20 n []
    simp at this
    omega
end Go.Proofs.YthedglgljehmgaaGreatDoor
