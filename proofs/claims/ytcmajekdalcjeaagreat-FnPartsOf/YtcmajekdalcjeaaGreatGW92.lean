/-
  Slices of texts in memory: held against each other (eqStringS), marked (markText).
-/
import Derived.Test.YtcmajekdalcjeaaGreatProg
import Derived.Test.YtcmajekdalcjeaaGreatM4
import Derived.Deep.QuietTactic
import Derived.BigQuiet
import Derived.WalkKit
import Derived.WalkSpells
import Derived.WalkLawsBesides
import Derived.Lib.SmallJoins
import Derived.Deep.WholeRow
import Derived.Deep.OwnRows
import Derived.Deep.RegionWith
import Derived.Laws.BytesArg
namespace Go.Proofs.YtcmajekdalcjeaaGreat
open Go.RowKit
set_option linter.unusedVariables false
/-- A slice of texts. -/
def TextsAt (w : World) (v : Value) (xs : List ByteArray) : Prop :=
  ∃ a cap, v = .slice a xs.length cap ∧ xs.length ≤ cap ∧ xs.length ≤ maxLen ∧ (∀ (i : Nat) (x : ByteArray), xs[i]? = some x → x.size ≤ maxLen) ∧
    (xs ≠ [] → ∃ b off, a = some ⟨b, off, none⟩ ∧ b < w.heap.size ∧ ∀ (i : Nat) (x : ByteArray), xs[i]? = some x → w.cell? ⟨b, off + i, none⟩ = some (.string x))
theorem TextsAt.below {w w' : World} {v : Value} {xs : List ByteArray} (h : TextsAt w v xs) (hb : Below w.heap.size w w') : TextsAt w' v xs := by
  obtain ⟨a, cap, hv, hc, hm, hf, hh⟩ := h
  refine ⟨a, cap, hv, hc, hm, hf, fun hn => ?_⟩
  obtain ⟨b, off, ha, h2, h3⟩ := hh hn
  exact ⟨b, off, ha, Nat.lt_of_lt_of_le h2 hb.size, fun i x hx => (hb.cell (p := ⟨b, off + i, none⟩) h2).trans (h3 i x hx)⟩
theorem TextsAt.form {w : World} {v : Value} {xs : List ByteArray} (h : TextsAt w v xs) : ∃ a cap, v = .slice a xs.length cap ∧ xs.length ≤ cap ∧ xs.length ≤ maxLen := by
  obtain ⟨a, cap, hv, hc, hm, hf, hh⟩ := h
  exact ⟨a, cap, hv, hc, hm⟩
theorem not_nil90 {α : Type} {l : List α} {i : Nat} {x : α} (h : l[i]? = some x) : l ≠ [] := by rintro rfl; simp at h
theorem TextsAt.at {w : World} {v : Value} {xs : List ByteArray} (h : TextsAt w v xs) {k : Nat} (hk : k < xs.length) :
    ∃ b off cap x, v = .slice (some ⟨b, off, none⟩) xs.length cap ∧ b < w.heap.size ∧ xs[k]? = some x ∧ x.size ≤ maxLen ∧ w.cell? ⟨b, off + k, none⟩ = some (.string x) := by
  obtain ⟨a, cap, hv, hc, hm, hf, hh⟩ := h
  have he := List.getElem?_eq_getElem hk
  obtain ⟨b, off, rfl, h2, h3⟩ := hh (not_nil90 he)
  exact ⟨b, off, cap, _, hv, h2, he, hf k _ he, h3 k _ he⟩
set_option maxHeartbeats 1000000 in
theorem eqStringS_same (w : World) (v u : Value) (xs : List ByteArray) (h : TextsAt w v xs) (h' : TextsAt w u xs) :
    Calls Tryz.prog 12 #[v, u] w fun e w' => e = .returned (.bool true) ∧ Below w.heap.size w w' := by
  obtain ⟨a, cap, rfl, hc, hm⟩ := h.form
  obtain ⟨a', cap', rfl, hc', hm'⟩ := h'.form
  have HS : Hid (TextsAt w (.slice a xs.length cap) xs) := h
  have HS' : Hid (TextsAt w (.slice a' xs.length cap') xs) := h'
  clear h h'
  unfold maxLen at hm hm'
  go_enter Tryz.func12, Tryz.ntmps12
  go_wp2
  go_loopw [5] (fun i wr => ∃ (k : Nat), k ≤ xs.length ∧ i = .int .i64 k ∧ Below w.heap.size w wr) (fun i _ => xs.length - (intOf i).toNat)
  case atStart => exact ⟨0, Nat.zero_le _, rfl, Below.refl _ _⟩
  case round =>
    obtain ⟨k, hk, rfl, hb⟩ := hrel
    have HB : Hid (Below w.heap.size w wr) := hb
    clear hb
    by_cases hlt : k < xs.length
    · obtain ⟨b, off, cap1, s, hv, _, hs, _, c1⟩ := (HS.out.below HB.out).at hlt
      cases hv
      obtain ⟨b', off', cap2, s', hv', _, hs', _, c1'⟩ := (HS'.out.below HB.out).at hlt
      cases hv'
      rw [hs] at hs'
      cases hs'
      clear hs
      go_wp2_with fail
      go_region
      all_goals
        go_wp2
        go_roundw
        case rel => exact ⟨k + 1, by omega, by go_num, HB.out.drew⟩
        case measure => simp [intOf]; omega
    · go_wp2
      go_ret
      exact ⟨rfl, HB.out⟩
/-- Digits of a number, ahead of a text. -/
def digT : Nat → Nat → List UInt8 → List UInt8
  | 0, _, acc => acc
  | f + 1, n, acc => if n = 0 then acc else digT f (n / 10) (UInt8.ofNat (48 + n % 10) :: acc)
/-- The mark of a number. -/
def markT (n : Nat) : ByteArray := if n = 0 then ⟨#[109, 48]⟩ else ⟨(109 :: digT 20 n []).toArray⟩
end Go.Proofs.YtcmajekdalcjeaaGreat
/-
  Lists of texts held against each other, and asked for one: mdTexts, mdHas.
-/
namespace Go.Proofs.YtcmajekdalcjeaaGreat
open Go.RowKit
set_option linter.unusedVariables false
/-- A text is among others. -/
def memT (xs : List ByteArray) (s : ByteArray) : Bool := xs.any fun x => x.toList == s.toList
theorem memT_iff (xs : List ByteArray) (s : ByteArray) : memT xs s = true ↔ s ∈ xs := by
  unfold memT
  rw [List.any_eq_true]
  constructor
  · rintro ⟨x, hx, e⟩
    rw [← toList_inj' (eq_of_beq e)]
    exact hx
  · exact fun h => ⟨s, h, beq_self_eq_true _⟩
theorem memT_true {xs : List ByteArray} {s : ByteArray} (h : s ∈ xs) : memT xs s = true := (memT_iff xs s).2 h
theorem memT_false {xs : List ByteArray} {s : ByteArray} (h : ¬ s ∈ xs) : memT xs s = false := by
  cases e : memT xs s with
  | false => rfl
  | true => exact absurd ((memT_iff xs s).1 e) h
set_option maxHeartbeats 1000000 in
theorem mdTexts_same (w : World) (v u : Value) (xs : List ByteArray) (h : TextsAt w v xs) (h' : TextsAt w u xs) :
    Calls Tryz.prog 7 #[v, u] w fun e w' => e = .returned (.bool true) ∧ Below w.heap.size w w' := by
  obtain ⟨a, cap, rfl, hc, hm⟩ := h.form
  obtain ⟨a', cap', rfl, hc', hm'⟩ := h'.form
  have HS : Hid (TextsAt w (.slice a xs.length cap) xs) := h
  have HS' : Hid (TextsAt w (.slice a' xs.length cap') xs) := h'
  clear h h'
  unfold maxLen at hm hm'
  go_enter Tryz.func7, Tryz.ntmps7
  go_wp2
  go_loopw [5] (fun i wr => ∃ (k : Nat), k ≤ xs.length ∧ i = .int .i64 k ∧ Below w.heap.size w wr) (fun i _ => xs.length - (intOf i).toNat)
  case atStart => exact ⟨0, Nat.zero_le _, rfl, Below.refl _ _⟩
  case round =>
    obtain ⟨k, hk, rfl, hb⟩ := hrel
    have HB : Hid (Below w.heap.size w wr) := hb
    clear hb
    by_cases hlt : k < xs.length
    · obtain ⟨b, off, cap1, s, hv, _, hs, _, c1⟩ := (HS.out.below HB.out).at hlt
      cases hv
      obtain ⟨b', off', cap2, s', hv', _, hs', _, c1'⟩ := (HS'.out.below HB.out).at hlt
      cases hv'
      rw [hs] at hs'
      cases hs'
      clear hs
      go_wp2_with fail
      go_region
      all_goals
        go_wp2
        go_roundw
        case rel => exact ⟨k + 1, by omega, by go_num, HB.out.drew⟩
        case measure => simp [intOf]; omega
    · go_wp2
      go_ret
      exact ⟨rfl, HB.out⟩
end Go.Proofs.YtcmajekdalcjeaaGreat
/-
  Marks: markText.
-/
namespace Go.Proofs.YtcmajekdalcjeaaGreat
open Go.RowKit
set_option linter.unusedVariables false
theorem conv_dig (d b : Nat) (x : Int) (hx : x = 48 + (d : Int)) (wx : World) (h : wx.cell? ⟨b, 0, none⟩ = some (.int .u8 x)) :
    (convert 22 9 (.slice (some ⟨b, 0, none⟩) 1 1)).run Tryz.prog wx = .ok (.string ⟨#[UInt8.ofNat (48 + d)]⟩) wx := by
  subst hx
  have h1 := run_convert_bytes_arg (P := Tryz.prog) wx 22 5 Tryz.underlying22 Tryz.underlying5 b 0 1 1 [48 + (d : Int)] rfl (fun i hi => by
    have : i = 0 := by omega
    subst this
    exact h) 9 Tryz.underlying9
  rw [h1]
  have e : (48 + (d : Int)).toNat = 48 + d := by omega
  simp [strOfNums, e]
theorem digT_zero (f : Nat) (acc : List UInt8) : digT f 0 acc = acc := by cases f <;> simp [digT]
theorem digT_succ {f n : Nat} {acc : List UInt8} (h : 0 < n) : digT (f + 1) n acc = digT f (n / 10) (UInt8.ofNat (48 + n % 10) :: acc) := if_neg (by omega)
theorem app_one (c : UInt8) (acc : List UInt8) : (⟨#[c]⟩ : ByteArray) ++ ⟨acc.toArray⟩ = ⟨(c :: acc).toArray⟩ := by
  apply ByteArray.ext
  simp
theorem size_toArr (acc : List UInt8) : (⟨acc.toArray⟩ : ByteArray).size = acc.length := by simp [ByteArray.size]
theorem digT_length : ∀ (f n : Nat) (acc : List UInt8), (digT f n acc).length ≤ acc.length + f
  | 0, _, acc => by simp [digT]
  | f + 1, n, acc => by
    unfold digT
    split
    · omega
    · have := digT_length f (n / 10) (UInt8.ofNat (48 + n % 10) :: acc)
      rw [List.length_cons] at this
      omega
set_option maxHeartbeats 2000000 in
theorem markText_any (N : Nat) (hN : N < 9000000000000000000) (w : World) :
    Calls Tryz.prog 36 #[.int .i64 N] w fun e w' => e = .returned (.string (markT N)) ∧ Below w.heap.size w w' := by
  by_cases h0 : N = 0
  · subst h0
    go_enter Tryz.func36, Tryz.ntmps36
    go_wp2
    go_ret
    exact ⟨rfl, Below.refl _ _⟩
  · have HM : Hid (markT N = ⟨(109 :: digT 20 N []).toArray⟩) := if_neg h0
    have hp : 0 < N := by omega
    go_enter Tryz.func36, Tryz.ntmps36
    go_wp2
    go_loopw [0, 3] (fun kv o wr => ∃ (j n : Nat) (acc : List UInt8), kv = .int .i64 n ∧ o = .string ⟨acc.toArray⟩ ∧ n < 10 ^ j ∧ n < 9000000000000000000 ∧ acc.length + j ≤ 19 ∧ digT 20 N [] = digT (j + 1) n acc ∧ Below w.heap.size w wr) (fun kv _ _ => (intOf kv).toNat)
    case atStart => exact ⟨19, N, [], rfl, rfl, by omega, hN, by simp, rfl, Below.refl _ _⟩
    case round =>
      obtain ⟨j, n, acc, rfl, rfl, hj, hn, hl, hd, hb⟩ := hrel
      have HB : Hid (Below w.heap.size w wr) := hb
      have HD : Hid (digT 20 N [] = digT (j + 1) n acc) := hd
      have HJ : Hid (n < 10 ^ j) := hj
      clear hb hd hj
      have hz : (⟨acc.toArray⟩ : ByteArray).size ≤ 19 := by rw [size_toArr]; omega
      by_cases hlt : 0 < n
      · have hc := conv_dig (n % 10)
        go_wp2
        go_roundw
        case rel =>
          have hj := HJ.out
          cases j with
          | zero => simp at hj; omega
          | succ j =>
            have hd := HD.out
            rw [digT_succ hlt] at hd
            refine ⟨j, n / 10, UInt8.ofNat (48 + n % 10) :: acc, by rw [Int.natCast_ediv]; rfl, ?_, by rw [Nat.pow_succ] at hj; omega, by omega, by rw [List.length_cons]; omega, hd, HB.out.alloc HB.out.size _⟩
            rw [← app_one, UInt8.ofNat_add]
            rfl
        case measure => simp [intOf]; omega
      · have hn0 : n = 0 := by omega
        subst hn0
        go_wp2
        go_ret
        refine ⟨?_, HB.out⟩
        rw [HM.out, HD.out, digT_zero, ← app_one]
        rfl
end Go.Proofs.YtcmajekdalcjeaaGreat
/-
  Slices of texts marked and held: markStringS, heldStringS.
-/
namespace Go.Proofs.YtcmajekdalcjeaaGreat
open Go.RowKit
set_option linter.unusedVariables false
/-- A slice of texts that may be written, from block lo on. -/
def TextsOwn (lo : Nat) (w : World) (v : Value) (xs : List ByteArray) : Prop :=
  ∃ a cap, v = .slice a xs.length cap ∧ xs.length ≤ cap ∧ cap ≤ maxLen ∧ (∀ (i : Nat) (x : ByteArray), xs[i]? = some x → x.size ≤ maxLen) ∧
    (xs ≠ [] → ∃ g n f, a = some ⟨g, 0, none⟩ ∧ lo ≤ g ∧ xs.length ≤ n ∧ w.rowIs g 9 n f ∧ ∀ (i : Nat) (x : ByteArray), xs[i]? = some x → f i = .string x)
theorem TextsOwn.at {lo : Nat} {w : World} {v : Value} {xs : List ByteArray} (h : TextsOwn lo w v xs) : TextsAt w v xs := by
  obtain ⟨a, cap, hv, hc, hm, hf, hh⟩ := h
  refine ⟨a, cap, hv, hc, Nat.le_trans hc hm, hf, fun hn => ?_⟩
  obtain ⟨g, n, f, ha, _, hle, hr, hx⟩ := hh hn
  refine ⟨g, 0, ha, hr.lt, fun i x hi => ?_⟩
  have hlt : i < xs.length := (List.getElem?_eq_some_iff.1 hi).1
  rw [Nat.zero_add, hr.cell (by omega), hx i x hi]
theorem TextsOwn.below {lo : Nat} {w w' : World} {v : Value} {xs : List ByteArray} (h : TextsOwn lo w v xs) (hb : Below w.heap.size w w') : TextsOwn lo w' v xs := by
  obtain ⟨a, cap, hv, hc, hm, hf, hh⟩ := h
  refine ⟨a, cap, hv, hc, hm, hf, fun hn => ?_⟩
  obtain ⟨g, n, f, ha, hlo, hle, hr, hx⟩ := hh hn
  exact ⟨g, n, f, ha, hlo, hle, hr.of_block (hb.block g hr.lt), hx⟩
/-- So many marks. -/
def marks (k n : Nat) : List ByteArray := (List.range n).map fun i => markT (k + i)
theorem marks_length (k n : Nat) : (marks k n).length = n := by simp [marks]
theorem marks_at {k n i : Nat} (h : i < n) : (marks k n)[i]? = some (markT (k + i)) := by simp [marks, h]
theorem markT_size (n : Nat) : (markT n).size ≤ 21 := by
  unfold markT
  split
  · decide
  · rw [size_toArr, List.length_cons]
    have := digT_length 20 n []
    simp at this
    omega
set_option maxHeartbeats 2000000 in
theorem markStringS_any (lo k : Nat) (w : World) (v : Value) (xs : List ByteArray) (h : TextsOwn lo w v xs) (hk : k ≤ 2000000000) (hlen : xs.length ≤ 2000000000) (hlo : lo ≤ w.heap.size) :
    Calls Tryz.prog 15 #[v, .int .i64 k] w fun e w' => e = .returned (.int .i64 (k + xs.length)) ∧ TextsOwn lo w' v (marks k xs.length) ∧ Below lo w w' := by
  obtain ⟨a, cap, rfl, hc, hm, hf, hh⟩ := h
  have HC : Hid (cap ≤ maxLen) := hm
  unfold maxLen at hm
  clear hf
  by_cases hn : xs = []
  · subst hn
    clear hh
    have HR : Hid (TextsOwn lo w (.slice a (List.length ([] : List ByteArray)) cap) (marks k (List.length ([] : List ByteArray)))) := ⟨a, cap, rfl, hc, HC.out, fun i x hx => by simp [marks] at hx, fun hh => absurd rfl hh⟩
    simp only [List.length_nil] at *
    go_enter Tryz.func15, Tryz.ntmps15
    go_wp2
    go_loopw [1, 5] (fun kv i wr => kv = .int .i64 k ∧ i = .int .i64 0 ∧ wr = w) (fun _ i _ => 0)
    case atStart => exact ⟨rfl, rfl, rfl⟩
    case round =>
      obtain ⟨rfl, rfl, rfl⟩ := hrel
      go_wp2
      go_ret
      exact ⟨by simp, HR.out, Below.refl _ _⟩
  · obtain ⟨g, n, f0, rfl, hg, hle, hr, _⟩ := hh hn
    have hgl := hr.lt
    have HR : Hid (w.rowIs g 9 n f0) := hr
    have HN : Hid (xs ≠ []) := hn
    clear hr hn hh
    go_enter Tryz.func15, Tryz.ntmps15
    go_wp2
    go_loopw [1, 5] (fun kv i wr => ∃ (j : Nat) (f : Nat → Value), j ≤ xs.length ∧ kv = .int .i64 (k + j) ∧ i = .int .i64 j ∧ wr.rowIs g 9 n f ∧ (∀ m : Nat, m < j → f m = .string (markT (k + m))) ∧ w.heap.size ≤ wr.heap.size ∧ Below lo w wr) (fun _ i _ => xs.length - (intOf i).toNat)
    case atStart => exact ⟨0, f0, Nat.zero_le _, by simp, rfl, HR.out, fun m hm => absurd hm (by omega), Nat.le_refl _, Below.refl _ _⟩
    case round =>
      obtain ⟨j, f, hj, rfl, rfl, hr, ha, hsz, hb⟩ := hrel
      have HB : Hid (Below lo w wr) := hb
      have HW : Hid (wr.rowIs g 9 n f) := hr
      have HA : Hid (∀ m : Nat, m < j → f m = .string (markT (k + m))) := ha
      clear hb hr ha
      by_cases hlt : j < xs.length
      · have hmk := markText_any (k + j) (by omega)
        rw [Int.natCast_add] at hmk
        go_wp2_with fail
        refine (hmk _).mono ?_
        rintro e w' ⟨rfl, hb'⟩
        have HW' : Hid (w'.rowIs g 9 n f) := HW.out.of_block (hb'.block g HW.out.lt)
        have HB' : Hid (Below lo w w') := HB.out.trans (hb'.mono (by omega))
        have HZ : Hid (w.heap.size ≤ w'.heap.size) := Nat.le_trans hsz hb'.size
        have d1 := HW'.out.cell (i := j) (by omega)
        have g1 := HW'.out.frozen j
        have hms := markT_size (k + j)
        clear hb' hmk
        go_wp2
        go_roundw
        case rel =>
          refine ⟨j + 1, _, by omega, by go_num, by go_num, HW'.out.set j _, fun m hm => ?_, by simpa [World.setCell] using HZ.out, HB'.out.setCell hg _⟩
          by_cases e : m = j
          · subst e; exact if_pos rfl
          · rw [if_neg e]; exact HA.out m (by omega)
        case measure => simp [intOf]; omega
      · have hje : j = xs.length := by omega
        subst hje
        go_wp2
        go_ret
        refine ⟨rfl, ⟨_, cap, by rw [marks_length], by rw [marks_length]; exact hc, HC.out, fun i x hx => ?_, fun _ => ⟨g, n, f, rfl, hg, by rw [marks_length]; exact hle, HW.out, fun i x hx => ?_⟩⟩, HB.out⟩
        · have hi : i < xs.length := by have := (List.getElem?_eq_some_iff.1 hx).1; rwa [marks_length] at this
          rw [marks_at hi] at hx
          cases hx
          have := markT_size (k + i)
          unfold maxLen
          omega
        · have hi : i < xs.length := by have := (List.getElem?_eq_some_iff.1 hx).1; rwa [marks_length] at this
          rw [marks_at hi] at hx
          cases hx
          exact HA.out i hi
set_option maxHeartbeats 2000000 in
theorem heldStringS_any (k n : Nat) (w : World) (v : Value) (h : TextsAt w v (marks k n)) (hk : k ≤ 2000000000) (hlen : n ≤ 2000000000) :
    Calls Tryz.prog 16 #[v, .int .i64 k] w fun e w' => e = .returned (.int .i64 (k + n)) ∧ Below w.heap.size w w' := by
  obtain ⟨a, cap, rfl, hc, hm⟩ := h.form
  rw [marks_length] at hc hm h ⊢
  have HS : Hid (TextsAt w (.slice a n cap) (marks k n)) := h
  clear h
  unfold maxLen at hm
  go_enter Tryz.func16, Tryz.ntmps16
  go_wp2
  go_loopw [1, 5] (fun kv i wr => ∃ (j : Nat), j ≤ n ∧ kv = .int .i64 (k + j) ∧ i = .int .i64 j ∧ Below w.heap.size w wr) (fun _ i _ => n - (intOf i).toNat)
  case atStart => exact ⟨0, Nat.zero_le _, by simp, rfl, Below.refl _ _⟩
  case round =>
    obtain ⟨j, hj, rfl, rfl, hb⟩ := hrel
    have HB : Hid (Below w.heap.size w wr) := hb
    clear hb
    by_cases hlt : j < n
    · obtain ⟨b, off, cap1, s, hv, hbl, hs, _, c1⟩ := (HS.out.below HB.out).at (k := j) (by rw [marks_length]; exact hlt)
      rw [marks_length] at hv
      cases hv
      rw [marks_at hlt] at hs
      cases hs
      have hms := markT_size (k + j)
      have hmk := markText_any (k + j) (by omega)
      rw [Int.natCast_add] at hmk
      have HK : Hid (∀ w : World, Calls Tryz.prog 36 #[.int .i64 ((k : Int) + (j : Int))] w fun e w' => e = .returned (.string (markT (k + j))) ∧ Below w.heap.size w w') := hmk
      clear hmk
      go_wp2_with fail
      go_region_with (go_at_call 36; refine (HK.out _).mono ?_; rintro e w' ⟨rfl, hb'⟩; have HB' : Hid (Below w.heap.size w w') := HB.out.drew.trans (hb'.mono HB.out.size); have c2 := (hb'.cell (p := ⟨b, off + j, none⟩) hbl).trans c1; clear hb')
      all_goals
        go_wp2
        go_roundw
        case rel => exact ⟨j + 1, by omega, by go_num, by go_num, HB'.out⟩
        case measure => simp [intOf]; omega
    · have hje : j = n := by omega
      subst hje
      go_wp2
      go_ret
      exact ⟨rfl, HB.out⟩
end Go.Proofs.YtcmajekdalcjeaaGreat
