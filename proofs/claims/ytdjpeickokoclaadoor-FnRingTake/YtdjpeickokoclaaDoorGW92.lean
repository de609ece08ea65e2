/-
  Slices of texts in memory: held against each other (eqStringS), marked (markText).
-/
import Derived.Test.YtdjpeickokoclaaDoorProg
import Derived.Test.YtdjpeickokoclaaDoorM4
import Derived.Deep.QuietTactic
import Derived.BigQuiet
import Derived.WalkKit
import Derived.WalkSpells
import Derived.WalkLawsBesides
import Derived.Lib.SmallJoins
import Derived.Deep.WholeRow
import Derived.Deep.OwnRows
import Derived.Deep.RegionWith
import Derived.Laws.BytesArg
namespace Go.Proofs.YtdjpeickokoclaaDoor
open Go.RowKit
set_option linter.unusedVariables false
/-- A slice of texts. -/
def TextsAt (w : World) (v : Value) (xs : List ByteArray) : Prop :=
  ∃ a cap, v = .slice a xs.length cap ∧ xs.length ≤ cap ∧ xs.length ≤ maxLen ∧ (∀ (i : Nat) (x : ByteArray), xs[i]? = some x → x.size ≤ maxLen) ∧
    (xs ≠ [] → ∃ b off, a = some ⟨b, off, none⟩ ∧ b < w.heap.size ∧ ∀ (i : Nat) (x : ByteArray), xs[i]? = some x → w.cell? ⟨b, off + i, none⟩ = some (.string x))
theorem TextsAt.below {w w' : World} {v : Value} {xs : List ByteArray} (h : TextsAt w v xs) (hb : Below w.heap.size w w') : TextsAt w' v xs := by
  obtain ⟨a, cap, hv, hc, hm, hf, hh⟩ := h
  refine ⟨a, cap, hv, hc, hm, hf, fun hn => ?_⟩
  obtain ⟨b, off, ha, h2, h3⟩ := hh hn
  exact ⟨b, off, ha, Nat.lt_of_lt_of_le h2 hb.size, fun i x hx => (hb.cell (p := ⟨b, off + i, none⟩) h2).trans (h3 i x hx)⟩
theorem TextsAt.form {w : World} {v : Value} {xs : List ByteArray} (h : TextsAt w v xs) : ∃ a cap, v = .slice a xs.length cap ∧ xs.length ≤ cap ∧ xs.length ≤ maxLen := by
  obtain ⟨a, cap, hv, hc, hm, hf, hh⟩ := h
  exact ⟨a, cap, hv, hc, hm⟩
theorem not_nil90 {α : Type} {l : List α} {i : Nat} {x : α} (h : l[i]? = some x) : l ≠ [] := by rintro rfl; simp at h
theorem TextsAt.at {w : World} {v : Value} {xs : List ByteArray} (h : TextsAt w v xs) {k : Nat} (hk : k < xs.length) :
    ∃ b off cap x, v = .slice (some ⟨b, off, none⟩) xs.length cap ∧ b < w.heap.size ∧ xs[k]? = some x ∧ x.size ≤ maxLen ∧ w.cell? ⟨b, off + k, none⟩ = some (.string x) := by
  obtain ⟨a, cap, hv, hc, hm, hf, hh⟩ := h
  have he := List.getElem?_eq_getElem hk
  obtain ⟨b, off, rfl, h2, h3⟩ := hh (not_nil90 he)
  exact ⟨b, off, cap, _, hv, h2, he, hf k _ he, h3 k _ he⟩
/-- Digits of a number, ahead of a text. -/
def digT : Nat → Nat → List UInt8 → List UInt8
  | 0, _, acc => acc
  | f + 1, n, acc => if n = 0 then acc else digT f (n / 10) (UInt8.ofNat (48 + n % 10) :: acc)
/-- The mark of a number. -/
def markT (n : Nat) : ByteArray := if n = 0 then ⟨#[109, 48]⟩ else ⟨(109 :: digT 20 n []).toArray⟩
end Go.Proofs.YtdjpeickokoclaaDoor
/-
  Lists of texts held against each other, and asked for one: mdTexts, mdHas.
-/
namespace Go.Proofs.YtdjpeickokoclaaDoor
open Go.RowKit
set_option linter.unusedVariables false
set_option maxHeartbeats 1000000 in
theorem mdTexts_same (w : World) (v u : Value) (xs : List ByteArray) (h : TextsAt w v xs) (h' : TextsAt w u xs) :
    Calls Tryd.prog 26 #[v, u] w fun e w' => e = .returned (.bool true) ∧ Below w.heap.size w w' := by
  obtain ⟨a, cap, rfl, hc, hm⟩ := h.form
  obtain ⟨a', cap', rfl, hc', hm'⟩ := h'.form
  have HS : Hid (TextsAt w (.slice a xs.length cap) xs) := h
  have HS' : Hid (TextsAt w (.slice a' xs.length cap') xs) := h'
  clear h h'
  unfold maxLen at hm hm'
  go_enter Tryd.func26, Tryd.ntmps26
  go_wp2
  go_loopw [5] (fun i wr => ∃ (k : Nat), k ≤ xs.length ∧ i = .int .i64 k ∧ Below w.heap.size w wr) (fun i _ => xs.length - (intOf i).toNat)
  case atStart => exact ⟨0, Nat.zero_le _, rfl, Below.refl _ _⟩
  case round =>
    obtain ⟨k, hk, rfl, hb⟩ := hrel
    have HB : Hid (Below w.heap.size w wr) := hb
    clear hb
    by_cases hlt : k < xs.length
    · obtain ⟨b, off, cap1, s, hv, _, hs, _, c1⟩ := (HS.out.below HB.out).at hlt
      cases hv
      obtain ⟨b', off', cap2, s', hv', _, hs', _, c1'⟩ := (HS'.out.below HB.out).at hlt
      cases hv'
      rw [hs] at hs'
      cases hs'
      clear hs
      go_wp2_with fail
      go_region
      all_goals
        go_wp2
        go_roundw
        case rel => exact ⟨k + 1, by omega, by go_num, HB.out.drew⟩
        case measure => simp [intOf]; omega
    · go_wp2
      go_ret
      exact ⟨rfl, HB.out⟩
end Go.Proofs.YtdjpeickokoclaaDoor
/-
  Marks: markText.
-/
namespace Go.Proofs.YtdjpeickokoclaaDoor
open Go.RowKit
set_option linter.unusedVariables false
theorem conv_dig (d b : Nat) (x : Int) (hx : x = 48 + (d : Int)) (wx : World) (h : wx.cell? ⟨b, 0, none⟩ = some (.int .u8 x)) :
    (convert 22 9 (.slice (some ⟨b, 0, none⟩) 1 1)).run Tryd.prog wx = .ok (.string ⟨#[UInt8.ofNat (48 + d)]⟩) wx := by
  subst hx
  have h1 := run_convert_bytes_arg (P := Tryd.prog) wx 22 5 Tryd.underlying22 Tryd.underlying5 b 0 1 1 [48 + (d : Int)] rfl (fun i hi => by
    have : i = 0 := by omega
    subst this
    exact h) 9 Tryd.underlying9
  rw [h1]
  have e : (48 + (d : Int)).toNat = 48 + d := by omega
  simp [strOfNums, e]
theorem size_toArr (acc : List UInt8) : (⟨acc.toArray⟩ : ByteArray).size = acc.length := by simp [ByteArray.size]
end Go.Proofs.YtdjpeickokoclaaDoor
/-
  Slices of texts marked and held: markStringS, heldStringS.
-/
namespace Go.Proofs.YtdjpeickokoclaaDoor
open Go.RowKit
set_option linter.unusedVariables false
/-- A slice of texts that may be written, from block lo on. -/
def TextsOwn (lo : Nat) (w : World) (v : Value) (xs : List ByteArray) : Prop :=
  ∃ a cap, v = .slice a xs.length cap ∧ xs.length ≤ cap ∧ cap ≤ maxLen ∧ (∀ (i : Nat) (x : ByteArray), xs[i]? = some x → x.size ≤ maxLen) ∧
    (xs ≠ [] → ∃ g n f, a = some ⟨g, 0, none⟩ ∧ lo ≤ g ∧ xs.length ≤ n ∧ w.rowIs g 9 n f ∧ ∀ (i : Nat) (x : ByteArray), xs[i]? = some x → f i = .string x)
theorem TextsOwn.at {lo : Nat} {w : World} {v : Value} {xs : List ByteArray} (h : TextsOwn lo w v xs) : TextsAt w v xs := by
  obtain ⟨a, cap, hv, hc, hm, hf, hh⟩ := h
  refine ⟨a, cap, hv, hc, Nat.le_trans hc hm, hf, fun hn => ?_⟩
  obtain ⟨g, n, f, ha, _, hle, hr, hx⟩ := hh hn
  refine ⟨g, 0, ha, hr.lt, fun i x hi => ?_⟩
  have hlt : i < xs.length := (List.getElem?_eq_some_iff.1 hi).1
  rw [Nat.zero_add, hr.cell (by omega), hx i x hi]
theorem TextsOwn.below {lo : Nat} {w w' : World} {v : Value} {xs : List ByteArray} (h : TextsOwn lo w v xs) (hb : Below w.heap.size w w') : TextsOwn lo w' v xs := by
  obtain ⟨a, cap, hv, hc, hm, hf, hh⟩ := h
  refine ⟨a, cap, hv, hc, hm, hf, fun hn => ?_⟩
  obtain ⟨g, n, f, ha, hlo, hle, hr, hx⟩ := hh hn
  exact ⟨g, n, f, ha, hlo, hle, hr.of_block (hb.block g hr.lt), hx⟩
/-- So many marks. -/
def marks (k n : Nat) : List ByteArray := (List.range n).map fun i => markT (k + i)
end Go.Proofs.YtdjpeickokoclaaDoor
