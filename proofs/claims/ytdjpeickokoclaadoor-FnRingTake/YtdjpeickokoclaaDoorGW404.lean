/-
  Memory that is one's own, by types, in one form: texts, affixes, entries, books.
-/
import Derived.Test.YtdjpeickokoclaaDoorW134
import Derived.Test.YtdjpeickokoclaaDoorGW74
import Derived.Test.YtdjpeickokoclaaDoorGW111
import Derived.Test.YtdjpeickokoclaaDoorW71
import Derived.Test.YtdjpeickokoclaaDoorW340
import Derived.Test.YtdjpeickokoclaaDoorGW2
import Derived.WalkKit
import Derived.ProofKit
import Derived.OpenShut
import Derived.ShutString
import Derived.ChangeOld
import Derived.Below
import Derived.Deep.RegionHeld3
import Derived.Deep.QuietTactic
import Derived.BigQuiet
namespace Go.Proofs.YtdjpeickokoclaaDoor
open Go.RowKit
set_option linter.unusedVariables false
/-- Texts so far. -/
def TxTo (k : Nat) (xs : List ByteArray) (f : Nat → Value) : Prop := ∀ (j : Nat) (x : ByteArray), j < k → xs[j]? = some x → f j = .string x
/-- Texts in a row of their own. -/
def TextsRow (lo hi : Nat) (w : World) (v : Value) (xs : List ByteArray) : Prop :=
  RowOwn 9 1 lo hi w v xs.length (TxTo xs.length xs) ∧ ∀ (i : Nat) (x : ByteArray), xs[i]? = some x → x.size ≤ maxLen
theorem TextsRow.at {lo hi : Nat} {w : World} {v : Value} {xs : List ByteArray} (h : TextsRow lo hi w v xs) : TextsAt w v xs := by
  obtain ⟨⟨a, cap, hv, hc, hm, hh⟩, hf⟩ := h
  refine ⟨a, cap, hv, hc, Nat.le_trans hc hm, hf, fun hn => ?_⟩
  obtain ⟨g, m, f, ha, _, _, hle, hr, hx⟩ := hh (fun e => hn (List.length_eq_zero_iff.1 e))
  refine ⟨g, 0, ha, hr.lt, fun i x hi => ?_⟩
  have hlt : i < xs.length := (List.getElem?_eq_some_iff.1 hi).1
  rw [Nat.zero_add]
  exact (hr.cell (by omega)).trans (by rw [hx i x hlt hi])
theorem TextsRow.below {lo hi : Nat} {w w' : World} {v : Value} {xs : List ByteArray} (h : TextsRow lo hi w v xs) (hb : Below w.heap.size w w') : TextsRow lo hi w' v xs := ⟨h.1.below hb, h.2⟩
theorem TextsRow.wr {lo hi l h' : Nat} {w w' : World} {v : Value} {xs : List ByteArray} (h : TextsRow lo hi w v xs) (hw : Wr l h' w w') (hl : h' ≤ lo) : TextsRow lo hi w' v xs := ⟨h.1.wr hw hl, h.2⟩
theorem TextsRow.weak {lo hi lo' hi' : Nat} {w : World} {v : Value} {xs : List ByteArray} (h : TextsRow lo hi w v xs) (h1 : lo' ≤ lo) (h2 : hi ≤ hi') : TextsRow lo' hi' w v xs := ⟨h.1.weak h1 h2, h.2⟩
theorem RowOwn.set {t : TypeId} {size lo hi G : Nat} {w : World} {n n' c : Nat} {C : (Nat → Value) → Prop} (h : RowOwn t size lo hi w (.slice (some ⟨G, 0, none⟩) n c) n' C) {p : Addr} (hp : G ≠ p.block) (u : Value) : RowOwn t size lo hi (w.setCell p u) (.slice (some ⟨G, 0, none⟩) n c) n' C :=
  h.block fun g _ _ hg _ _ => by
    have e : g = G := by simp [Value.ownBlock] at hg; exact hg.symm
    subst e
    exact Below.heap_setCell _ _ _ g hp
theorem TextsRow.set {lo hi G : Nat} {w : World} {n c : Nat} {xs : List ByteArray} (h : TextsRow lo hi w (.slice (some ⟨G, 0, none⟩) n c) xs) {p : Addr} (hp : G ≠ p.block) (u : Value) : TextsRow lo hi (w.setCell p u) (.slice (some ⟨G, 0, none⟩) n c) xs := ⟨h.1.set hp u, h.2⟩
end Go.Proofs.YtdjpeickokoclaaDoor
/-
  Contracts of copies, marks and what holds them, in one form.
-/
namespace Go.Proofs.YtdjpeickokoclaaDoor
open Go.RowKit
set_option linter.unusedVariables false
end Go.Proofs.YtdjpeickokoclaaDoor
/-
  Small words for the walks of exact laws.
-/
namespace Go.Proofs.YtdjpeickokoclaaDoor
open Go.RowKit
set_option linter.unusedVariables false
end Go.Proofs.YtdjpeickokoclaaDoor
/-
  Arguments of laws, opened: slices of affixes, of texts; an entry.
-/
namespace Go.Proofs.YtdjpeickokoclaaDoor
open Go.ChangeShapes Go.WideShapes Go.ChangeAt Go.RowKit
set_option linter.unusedVariables false
end Go.Proofs.YtdjpeickokoclaaDoor
/-
  Entries and affixes held against their marks; changes in one form.
-/
namespace Go.Proofs.YtdjpeickokoclaaDoor
open Go.RowKit
set_option linter.unusedVariables false
end Go.Proofs.YtdjpeickokoclaaDoor
/-
  Rings: rows of numbers of one's own, marked and held; a ring that a law is given, copied, compared, marked, held.
-/
namespace Go.Proofs.YtdjpeickokoclaaDoor
open Go.ChangeShapes Go.WideShapes Go.ChangeAt Go.RowKit
set_option linter.unusedVariables false
/-- Numbers in a row of their own. -/
def InTo (k : Nat) (xs : List Int) (f : Nat → Value) : Prop := ∀ (j : Nat) (x : Int), j < k → xs[j]? = some x → f j = .int .i64 x
def IntsRow (lo hi : Nat) (w : World) (v : Value) (xs : List Int) : Prop := RowOwn 3 1 lo hi w v xs.length (InTo xs.length xs)
theorem IntsRow.at {lo hi : Nat} {w : World} {v : Value} {xs : List Int} (h : IntsRow lo hi w v xs) : IntsAt w v xs := by
  obtain ⟨a, cap, hv, hc, hm, hh⟩ := h
  refine ⟨a, cap, hv, hc, Nat.le_trans hc hm, fun hn => ?_⟩
  obtain ⟨g, m, f, ha, _, _, hle, hr, hx⟩ := hh (fun e => hn (List.length_eq_zero_iff.1 e))
  refine ⟨g, 0, ha, hr.lt, fun i x hi => ?_⟩
  have hlt : i < xs.length := (List.getElem?_eq_some_iff.1 hi).1
  rw [Nat.zero_add]
  exact (hr.cell (by omega)).trans (by rw [hx i x hlt hi])
theorem IntsRow.below {lo hi : Nat} {w w' : World} {v : Value} {xs : List Int} (h : IntsRow lo hi w v xs) (hb : Below w.heap.size w w') : IntsRow lo hi w' v xs := RowOwn.below h hb
theorem IntsRow.wr {lo hi l h' : Nat} {w w' : World} {v : Value} {xs : List Int} (h : IntsRow lo hi w v xs) (hw : Wr l h' w w') (hl : h' ≤ lo) : IntsRow lo hi w' v xs := RowOwn.wr h hw hl
theorem IntsRow.weak {lo hi lo' hi' : Nat} {w : World} {v : Value} {xs : List Int} (h : IntsRow lo hi w v xs) (h1 : lo' ≤ lo) (h2 : hi ≤ hi') : IntsRow lo' hi' w v xs := RowOwn.weak h h1 h2
theorem IntsRow.set {lo hi G : Nat} {w : World} {n c : Nat} {xs : List Int} (h : IntsRow lo hi w (.slice (some ⟨G, 0, none⟩) n c) xs) {p : Addr} (hp : G ≠ p.block) (u : Value) : IntsRow lo hi (w.setCell p u) (.slice (some ⟨G, 0, none⟩) n c) xs := RowOwn.set h hp u
/-- Rings. -/
abbrev RingM := List ByteArray × List Int
def RingAt (w : World) (v : Value) (x : RingM) : Prop := ∃ va vn, v = .agg #[va, vn] ∧ TextsAt w va x.1 ∧ IntsAt w vn x.2
def RingOwn (lo hi : Nat) (w : World) (v : Value) (x : RingM) : Prop := ∃ va vn, v = .agg #[va, vn] ∧ TextsRow lo hi w va x.1 ∧ IntsRow lo hi w vn x.2
theorem RingAt.form2 {w : World} {v : Value} {x : RingM} (h : RingAt w v x) : ∃ a n c a' n' c', v = .agg #[.slice a n c, .slice a' n' c'] := by
  obtain ⟨va, vn, rfl, h1, h2⟩ := h
  obtain ⟨a, c, rfl, _⟩ := h1.form
  obtain ⟨a', c', rfl, _⟩ := h2.form
  exact ⟨_, _, _, _, _, _, rfl⟩
theorem RingAt.below {w w' : World} {v : Value} {x : RingM} (h : RingAt w v x) (hb : Below w.heap.size w w') : RingAt w' v x := by
  obtain ⟨va, vn, hv, h1, h2⟩ := h
  exact ⟨va, vn, hv, h1.below hb, h2.below hb⟩
theorem RingOwn.at {lo hi : Nat} {w : World} {v : Value} {x : RingM} (h : RingOwn lo hi w v x) : RingAt w v x := by
  obtain ⟨va, vn, hv, h1, h2⟩ := h
  exact ⟨va, vn, hv, h1.at, h2.at⟩
theorem RingOwn.below {lo hi : Nat} {w w' : World} {v : Value} {x : RingM} (h : RingOwn lo hi w v x) (hb : Below w.heap.size w w') : RingOwn lo hi w' v x := by
  obtain ⟨va, vn, hv, h1, h2⟩ := h
  exact ⟨va, vn, hv, h1.below hb, h2.below hb⟩
theorem RingOwn.wr {lo hi l h' : Nat} {w w' : World} {v : Value} {x : RingM} (h : RingOwn lo hi w v x) (hw : Wr l h' w w') (hl : h' ≤ lo) : RingOwn lo hi w' v x := by
  obtain ⟨va, vn, hv, h1, h2⟩ := h
  exact ⟨va, vn, hv, h1.wr hw hl, h2.wr hw hl⟩
end Go.Proofs.YtdjpeickokoclaaDoor
/-
  What a ring that is ok is; the key of a number.
-/
namespace Go.Proofs.YtdjpeickokoclaaDoor
open Go.RowKit
set_option linter.unusedVariables false
theorem listInj401 {a b : ByteArray} (h : a.toList = b.toList) : a = b := by
  rw [ByteArray.toList_eq, ByteArray.toList_eq] at h
  apply ByteArray.ext
  exact Array.toList_inj.1 h
/-- A ring is ok. -/
def RingGood (x : RingM) : Prop :=
  1 ≤ x.1.length ∧ x.1.length ≤ 5 ∧ x.2.length = x.1.length ∧ x.2[0]? = some 1 ∧ (∀ (i : Nat) (k : ByteArray), x.1[i]? = some k → keyT k = true ∧ ∀ (j : Nat), j < i → x.1[j]? ≠ some k) ∧
    (∀ (i : Nat) (a b : Int), x.2[i]? = some a → x.2[i + 1]? = some b → a < b) ∧ ∀ (i : Nat) (b : Int), x.2[i]? = some b → b ≤ 999999
open Classical in
noncomputable def ringOk (x : RingM) : Bool := decide (RingGood x)
theorem ringOk_t {x : RingM} (h : RingGood x) : ringOk x = true := by unfold ringOk; classical exact decide_eq_true h
theorem ringOk_f {x : RingM} (h : ¬ RingGood x) : ringOk x = false := by unfold ringOk; classical exact decide_eq_false h
theorem ringOk_good {x : RingM} (h : ringOk x = true) : RingGood x := by unfold ringOk at h; classical exact of_decide_eq_true h
/-- Keys so far: each is a key, and none twice. -/
def KeysTo (ks : List ByteArray) (n : Nat) : Prop := ∀ (i : Nat) (k : ByteArray), i < n → ks[i]? = some k → keyT k = true ∧ ∀ (j : Nat), j < i → ks[j]? ≠ some k
def AscTo (ns : List Int) (n : Nat) : Prop := ∀ (i : Nat) (a b : Int), i + 1 < n → ns[i]? = some a → ns[i + 1]? = some b → a < b
theorem KeysTo.zero (ks : List ByteArray) : KeysTo ks 0 := fun i k h => absurd h (by omega)
theorem KeysTo.succ {ks : List ByteArray} {n : Nat} {k : ByteArray} (h : KeysTo ks n) (hk : ks[n]? = some k) (h1 : keyT k = true) (h2 : ∀ (j : Nat), j < n → ks[j]? ≠ some k) : KeysTo ks (n + 1) := fun i x hi hx => by
  by_cases e : i = n
  · subst e
    rw [hk] at hx
    cases hx
    exact ⟨h1, h2⟩
  · exact h i x (by omega) hx
theorem AscTo.succ {ns : List Int} {n : Nat} (h : AscTo ns n) (h2 : ∀ (a b : Int), 0 < n → ns[n - 1]? = some a → ns[n]? = some b → a < b) : AscTo ns (n + 1) := fun i a b hi ha hb => by
  by_cases e : i + 1 = n
  · subst e
    exact h2 a b (by omega) (by simpa using ha) hb
  · exact h i a b (by omega) ha hb
/-- The last is the greatest. -/
theorem AscTo.le_last {ns : List Int} {n : Nat} (h : AscTo ns n) (hn : ns.length = n) {z : Int} (hz : ns[n - 1]? = some z) (h0 : 0 < n) : ∀ (d i : Nat) (b : Int), i + d + 1 = n → ns[i]? = some b → b ≤ z := by
  intro d
  induction d with
  | zero =>
    intro i b hi hb
    have : i = n - 1 := by omega
    subst this
    rw [hz] at hb
    cases hb
    exact Int.le_refl _
  | succ d ih =>
    intro i b hi hb
    have hlt : i + 1 < ns.length := by omega
    have hc := List.getElem?_eq_getElem hlt
    have := h i b _ (by omega) hb hc
    have := ih (i + 1) _ (by omega) hc
    omega
theorem RingGood.of {x : RingM} {n : Nat} (h1 : 1 ≤ n) (h2 : n ≤ 5) (h3 : x.1.length = n) (h4 : x.2.length = n) (h5 : x.2[0]? = some 1) (hk : KeysTo x.1 n) (ha : AscTo x.2 n) {z : Int} (hz : x.2[n - 1]? = some z) (hl : z ≤ 999999) : RingGood x := by
  refine ⟨by omega, by omega, by omega, h5, fun i k hk' => hk i k (by have := (List.getElem?_eq_some_iff.1 hk').1; omega) hk', fun i a b ha' hb' => ha i a b (by have := (List.getElem?_eq_some_iff.1 hb').1; omega) ha' hb', fun i b hb => ?_⟩
  have hi := (List.getElem?_eq_some_iff.1 hb).1
  exact Int.le_trans (ha.le_last h4 hz (by omega) (n - 1 - i) i b (by omega) hb) hl
/-- The key of a number. -/
def keyOf : List ByteArray → List Int → Int → ByteArray → ByteArray
  | k :: ks, f :: fs, n, c => keyOf ks fs n (if f ≤ n then k else c)
  | _, _, _, c => c
theorem keyOf_snoc : ∀ (ks : List ByteArray) (fs : List Int) (n : Int) (c k : ByteArray) (f : Int), ks.length = fs.length → keyOf (ks ++ [k]) (fs ++ [f]) n c = if f ≤ n then k else keyOf ks fs n c
  | [], [], n, c, k, f, _ => rfl
  | a :: ks, b :: fs, n, c, k, f, h => by
    simp only [List.cons_append, keyOf]
    exact keyOf_snoc ks fs n _ k f (by simpa using h)
  | [], b :: fs, n, c, k, f, h => by simp at h
  | a :: ks, [], n, c, k, f, h => by simp at h
theorem keyOf_take {ks : List ByteArray} {fs : List Int} {n : Int} {j : Nat} {k : ByteArray} {f : Int} (hk : ks[j]? = some k) (hf : fs[j]? = some f) : keyOf (ks.take (j + 1)) (fs.take (j + 1)) n ⟨#[]⟩ = if f ≤ n then k else keyOf (ks.take j) (fs.take j) n ⟨#[]⟩ := by
  have h1 := (List.getElem?_eq_some_iff.1 hk).1
  have h2 := (List.getElem?_eq_some_iff.1 hf).1
  rw [List.take_add_one, List.take_add_one, hk, hf]
  exact keyOf_snoc _ _ _ _ _ _ (by simp [List.length_take]; omega)
noncomputable def rkT (x : RingM) (n : Int) : ByteArray := if ringOk x then keyOf x.1 x.2 n ⟨#[]⟩ else ⟨#[]⟩
set_option maxHeartbeats 1000000 in
theorem tIndex_any (w : World) (v : Value) (xs : List ByteArray) (x : ByteArray) (h : TextsAt w v xs) :
    Calls Tryd.prog 48 #[v, .string x] w fun e w' => (∃ r : Int, e = .returned (.int .i64 r) ∧ (0 ≤ r → ∃ j : Nat, xs[j]? = some x) ∧ (r < 0 → ∀ j : Nat, xs[j]? ≠ some x)) ∧ w' = w := by
  obtain ⟨a, cap, rfl, hc, hm⟩ := h.form
  have HS : Hid (TextsAt w (.slice a xs.length cap) xs) := h
  clear h
  unfold maxLen at hm
  go_enter Tryd.func48, Tryd.ntmps48
  go_wp2
  go_loop [8] (fun i => ∃ (k : Nat), k ≤ xs.length ∧ i = .int .i64 k ∧ ∀ j : Nat, j < k → xs[j]? ≠ some x) (fun i => xs.length - (intOf i).toNat)
  case atStart => exact ⟨0, Nat.zero_le _, rfl, fun j hj => absurd hj (by omega)⟩
  case round =>
    obtain ⟨k, hk, rfl, hni⟩ := hrel
    have HNI : Hid (∀ j : Nat, j < k → xs[j]? ≠ some x) := hni
    clear hni
    by_cases hlt : k < xs.length
    · obtain ⟨b, off, cap1, y, hv, hbl, hy, hyf, e0⟩ := HS.out.at hlt
      cases hv
      have HY : Hid (xs[k]? = some y) := hy
      clear hy
      by_cases hq : x.toList = y.toList
      · have HE : Hid (xs[k]? = some x) := by show _ = _; rw [listInj401 hq]; exact HY.out
        go_wp2
        go_ret
        exact ⟨⟨k, rfl, fun _ => ⟨k, HE.out⟩, fun hh => absurd hh (by omega)⟩, rfl⟩
      · have hq' : (x.toList == y.toList) = false := by simpa using hq
        have HQ : Hid (x ≠ y) := fun e => hq (by rw [e])
        clear hq
        go_wp2
        go_round
        case rel =>
          refine ⟨k + 1, by omega, by go_num, fun j hj => ?_⟩
          by_cases e : j = k
          · subst e
            rw [HY.out]
            intro h
            exact HQ.out (by injection h with h; exact h.symm)
          · exact HNI.out j (by omega)
        case measure => simp [intOf]; omega
    · go_wp2
      go_ret
      refine ⟨⟨-1, rfl, fun hh => absurd hh (by omega), fun _ j hj => ?_⟩, rfl⟩
      have := (List.getElem?_eq_some_iff.1 hj).1
      exact HNI.out j (by omega) hj
def textIn (xs : List ByteArray) (x : ByteArray) : Bool := xs.any fun y => decide (y = x)
theorem textIn_t {xs : List ByteArray} {x : ByteArray} {j : Nat} (h : xs[j]? = some x) : textIn xs x = true := by
  unfold textIn
  rw [List.any_eq_true]
  exact ⟨x, List.mem_of_getElem? h, by simp⟩
theorem textIn_f {xs : List ByteArray} {x : ByteArray} (h : ∀ j : Nat, xs[j]? ≠ some x) : textIn xs x = false := by
  unfold textIn
  rw [List.any_eq_false]
  intro y hy e
  have e2 : y = x := by simpa using e
  subst e2
  obtain ⟨j, hj, he⟩ := List.getElem_of_mem hy
  exact h j (by rw [← he]; exact List.getElem?_eq_getElem hj)
theorem textIn_iff {xs : List ByteArray} {x : ByteArray} : textIn xs x = true ↔ ∃ j : Nat, xs[j]? = some x := by
  constructor
  · intro h
    rcases Classical.em (∃ j : Nat, xs[j]? = some x) with hh | hh
    · exact hh
    · rw [textIn_f (fun j hj => hh ⟨j, hj⟩)] at h; cases h
  · rintro ⟨j, hj⟩; exact textIn_t hj
set_option maxHeartbeats 1000000 in
theorem tContains_any (w : World) (v : Value) (xs : List ByteArray) (x : ByteArray) (h : TextsAt w v xs) :
    Calls Tryd.prog 33 #[v, .string x] w fun e w' => e = .returned (.bool (textIn xs x)) ∧ w' = w := by
  obtain ⟨a, cap, rfl, hc, hm⟩ := h.form
  have HS : Hid (TextsAt w (.slice a xs.length cap) xs) := h
  clear h
  go_enter Tryd.func33, Tryd.ntmps33
  go_wp2_with fail
  refine (tIndex_any _ _ xs x HS.out).mono ?_
  rintro e w' ⟨⟨r, rfl, hr1, hr2⟩, rfl⟩
  have HR : Hid (decide (0 ≤ r) = textIn xs x) := by
    show decide (0 ≤ r) = textIn xs x
    by_cases h0 : 0 ≤ r
    · obtain ⟨j, hj⟩ := hr1 h0
      rw [textIn_t hj]; exact decide_eq_true h0
    · rw [textIn_f (hr2 (by omega))]; exact decide_eq_false h0
  clear hr1 hr2
  go_wp2
  go_ret
  rw [← HR.out]
  exact ⟨rfl, rfl⟩
end Go.Proofs.YtdjpeickokoclaaDoor
/-
  RingOk of both.
-/
namespace Go.Proofs.YtdjpeickokoclaaDoor
open Go.RowKit
set_option linter.unusedVariables false
theorem TextsAt.take402 {w : World} {b off cap : Nat} {xs : List ByteArray} (h : TextsAt w (.slice (some ⟨b, off, none⟩) xs.length cap) xs) {k : Nat} (hk : k ≤ xs.length) : TextsAt w (.slice (some ⟨b, off, none⟩) k cap) (xs.take k) := by
  obtain ⟨a, cap', hv, hc, hm, hf, hh⟩ := h
  cases hv
  have hl : (xs.take k).length = k := by simp [List.length_take]; omega
  refine ⟨some ⟨b, off, none⟩, cap, by rw [hl], by omega, by omega, fun i x hx => hf i x ?_, fun hn => ?_⟩
  · have hi : i < k := by have := (List.getElem?_eq_some_iff.1 hx).1; omega
    rwa [List.getElem?_take_of_lt hi] at hx
  · have h1 : xs ≠ [] := by rintro rfl; simp at hn
    obtain ⟨b', off', ha, h2, h3⟩ := hh h1
    cases ha
    refine ⟨b, off, rfl, h2, fun i x hx => h3 i x ?_⟩
    have hi : i < k := by have := (List.getElem?_eq_some_iff.1 hx).1; omega
    rwa [List.getElem?_take_of_lt hi] at hx
def LenIs (ns : List Int) (n : Nat) : Prop := ns.length = n
theorem not_good_key {ks : List ByteArray} {ns : List Int} {i : Nat} {k : ByteArray} (hk : ks[i]? = some k) (h : keyT k = false) : ¬ RingGood (ks, ns) := fun g => by
  have := (g.2.2.2.2.1 i k hk).1
  rw [h] at this
  cases this
theorem not_good_twice {ks : List ByteArray} {ns : List Int} {i j : Nat} {k : ByteArray} (hk : ks[i]? = some k) (hj : j < i) (h : ks[j]? = some k) : ¬ RingGood (ks, ns) := fun g => (g.2.2.2.2.1 i k hk).2 j hj h
theorem not_good_asc {ks : List ByteArray} {ns : List Int} {i : Nat} {a b : Int} (ha : ns[i]? = some a) (hb : ns[i + 1]? = some b) (h : ¬ a < b) : ¬ RingGood (ks, ns) := fun g => h (g.2.2.2.2.2.1 i a b ha hb)
theorem not_good_big {ks : List ByteArray} {ns : List Int} {i : Nat} {a : Int} (ha : ns[i]? = some a) (h : ¬ a ≤ 999999) : ¬ RingGood (ks, ns) := fun g => h (g.2.2.2.2.2.2 i a ha)
theorem take_none {xs : List ByteArray} {k : Nat} {x : ByteArray} (h : textIn (xs.take k) x = false) : ∀ (j : Nat), j < k → xs[j]? ≠ some x := fun j hj hx => by
  have : textIn (xs.take k) x = true := textIn_t (j := j) (by rw [List.getElem?_take_of_lt hj]; exact hx)
  rw [h] at this
  cases this
theorem take_some {xs : List ByteArray} {k : Nat} {x : ByteArray} (h : textIn (xs.take k) x = true) : ∃ j, j < k ∧ xs[j]? = some x := by
  obtain ⟨j, hj⟩ := textIn_iff.1 h
  have hlt : j < k := by have := (List.getElem?_eq_some_iff.1 hj).1; rw [List.length_take] at this; omega
  exact ⟨j, hlt, by rwa [List.getElem?_take_of_lt hlt] at hj⟩
set_option maxHeartbeats 2000000 in
theorem implRingOk_any (w : World) (v : Value) (x : RingM) (h : RingAt w v x) :
    Calls Tryd.prog 11 #[v] w fun e w' => e = .returned (.bool (ringOk x)) ∧ Below w.heap.size w w' := by
  obtain ⟨va, vn, rfl, ha, hn⟩ := h
  obtain ⟨ks, ns⟩ := x
  simp only at ha hn
  obtain ⟨a, cap, rfl, hc, hm⟩ := ha.form
  obtain ⟨a', cap', rfl, hc', hm'⟩ := hn.form
  have HA : Hid (TextsAt w (.slice a ks.length cap) ks) := ha
  have HN : Hid (IntsAt w (.slice a' ns.length cap') ns) := hn
  have HB0 : Hid (Below w.heap.size w (w.alloc (.cells #[.slice a ks.length cap, .slice a' ns.length cap'] 26))) := (Below.refl _ _).alloc (Nat.le_refl _) _
  unfold maxLen at hm hm'
  clear ha hn
  by_cases h1 : ks.length < 1
  · have HF : Hid (ringOk (ks, ns) = false) := ringOk_f fun g => by have := g.1; simp only at this; omega
    go_enter Tryd.func11, Tryd.ntmps11
    go_wp2_with fail
    go_ret
    exact ⟨ret_bool (by rw [HF.out]), HB0.out⟩
  · by_cases h2 : 5 < ks.length
    · have HF : Hid (ringOk (ks, ns) = false) := ringOk_f fun g => by have := g.2.1; simp only at this; omega
      go_enter Tryd.func11, Tryd.ntmps11
      go_wp2_with fail
      go_ret
      exact ⟨ret_bool (by rw [HF.out]), HB0.out⟩
    · by_cases h3 : ns.length = ks.length
      · obtain ⟨bn, offn, capn, z0, hvn, hbn, hz0, e0⟩ := HN.out.at (k := 0) (by omega)
        cases hvn
        rw [Nat.add_zero] at e0
        have e0' : (w.alloc (.cells #[.slice a ks.length cap, .slice (some ⟨bn, offn, none⟩) ns.length cap'] 26)).cell? ⟨bn, offn, none⟩ = some (.int .i64 z0) := (HB0.out.cell (p := ⟨bn, offn, none⟩) hbn).trans e0
        have HZ0 : Hid (ns[0]? = some z0) := hz0
        have HL : Hid (LenIs ns ks.length) := h3
        rw [h3] at *
        clear h3 hz0
        by_cases h4 : z0 = 1
        · subst h4
          have i1 : ¬ ((ks.length : Int) < 1) := by omega
          have i2 : ¬ ((5 : Int) < ks.length) := by omega
          have i3 : ((ks.length : Int) == (ks.length : Int)) = true := by simp
          go_enter Tryd.func11, Tryd.ntmps11
          go_wp2_with fail
          go_loopw [34] (fun i wr => ∃ (k : Nat), k ≤ ks.length ∧ i = .int .i64 k ∧ KeysTo ks k ∧ AscTo ns k ∧ Below w.heap.size w wr ∧ w.heap.size < wr.heap.size ∧ wr.cell? ⟨w.heap.size, 0, none⟩ = some (.slice a ks.length cap) ∧ wr.cell? ⟨w.heap.size, 1, none⟩ = some (.slice (some ⟨bn, offn, none⟩) ks.length cap')) (fun i _ => ks.length - (intOf i).toNat)
          case atStart => exact ⟨0, Nat.zero_le _, rfl, KeysTo.zero _, fun i a b hi => absurd hi (by omega), HB0.out, by simp, by simp [go_sem], by simp [go_sem]⟩
          case round =>
            obtain ⟨k, hk, rfl, hkt, hat, hb, hlt0, s0, s1⟩ := hrel
            have HB : Hid (Below w.heap.size w wr) := hb
            have HKT : Hid (KeysTo ks k) := hkt
            have HAT : Hid (AscTo ns k) := hat
            clear hb hkt hat
            by_cases hlt : k < ks.length
            · obtain ⟨b, off, cap1, y, hv, hbl, hy, hyf, c0⟩ := (HA.out.below HB.out).at (k := k) hlt
              cases hv
              have HA1 : Hid (TextsAt wr (.slice (some ⟨b, off, none⟩) k cap) (ks.take k)) := ((HA.out.below HB.out).take402 (Nat.le_of_lt hlt))
              have HY : Hid (ks[k]? = some y) := hy
              have HYF : Hid (y.size ≤ maxLen) := hyf
              have hlt' : (k : Int) < ks.length := by omega
              have hkc : (k : Int) ≤ cap := by omega
              clear hy hyf
              cases hkey : keyT y with
              | false =>
                have HF : Hid (ringOk (ks, ns) = false) := ringOk_f (not_good_key HY.out hkey)
                go_wp2_with fail
                go_quiet ((first | (go_at_call 29; refine (keyOk_any y _ HYF.out).mono ?_; rintro e w'' ⟨he, rfl⟩; rw [hkey] at he; subst he; exact ⟨rfl, _, rfl⟩)))
                go_wp2
                go_ret
                exact ⟨ret_bool (by rw [HF.out]), below_drewN70 HB.out _⟩
              | true =>
                cases hin : textIn (ks.take k) y with
                | true =>
                  obtain ⟨j, hj, hjy⟩ := take_some hin
                  have HF : Hid (ringOk (ks, ns) = false) := ringOk_f (not_good_twice HY.out hj hjy)
                  go_wp2_with fail
                  go_quiet ((first | (go_at_call 29; refine (keyOk_any y _ HYF.out).mono ?_; rintro e w'' ⟨he, rfl⟩; rw [hkey] at he; subst he; exact ⟨rfl, _, rfl⟩) | (go_at_call 33; refine (tContains_any _ _ _ y (HA1.out.below (below_drewN70 (Below.refl _ _) _))).mono ?_; rintro e w'' ⟨he, rfl⟩; rw [hin] at he; subst he; exact ⟨rfl, _, rfl⟩)))
                  go_wp2
                  go_ret
                  exact ⟨ret_bool (by rw [HF.out]), below_drewN70 HB.out _⟩
                | false =>
                  by_cases hk0 : k = 0
                  · subst hk0
                    rw [Nat.add_zero] at c0
                    go_wp2_with fail
                    go_quiet ((first | (go_at_call 29; refine (keyOk_any y _ HYF.out).mono ?_; rintro e w'' ⟨he, rfl⟩; rw [hkey] at he; subst he; exact ⟨rfl, _, rfl⟩) | (go_at_call 33; refine (tContains_any _ _ _ y (HA1.out.below (below_drewN70 (Below.refl _ _) _))).mono ?_; rintro e w'' ⟨he, rfl⟩; rw [hin] at he; subst he; exact ⟨rfl, _, rfl⟩)))
                    go_wp2
                    go_roundw
                    case rel => exact ⟨0 + 1, by omega, by go_num, HKT.out.succ HY.out hkey (take_none hin), HAT.out.succ (fun a b h0 => absurd h0 (by omega)), below_drewN70 HB.out _, hlt0, s0, s1⟩
                    case measure => simp [intOf]; omega
                  · have q0 : (0 : Int) < (k : Int) := by omega
                    obtain ⟨k1, hk1⟩ : ∃ k1, k = k1 + 1 := ⟨k - 1, by omega⟩
                    obtain ⟨b1, off1, cp1, za, hv1, hbl1, hza, d0⟩ := (HN.out.below HB.out).at (k := k1) (by have hl : ns.length = ks.length := HL.out; omega)
                    rw [show ns.length = ks.length from HL.out] at hv1
                    cases hv1
                    obtain ⟨b2, off2, cp2, zb, hv2, hbl2, hzb, d1⟩ := (HN.out.below HB.out).at (k := k) (by have hl : ns.length = ks.length := HL.out; omega)
                    rw [show ns.length = ks.length from HL.out] at hv2
                    cases hv2
                    have HZA : Hid (ns[k1]? = some za) := hza
                    have HZB : Hid (ns[k]? = some zb) := hzb
                    clear hza hzb
                    have q1 : IntKind.i64.wrap ((k : Int) - 1) = (k1 : Int) := by rw [show ((k : Int) - 1) = (k1 : Int) by omega]; exact IntWalk.i64_in _ (by omega)
                    have q2 : (k1 : Int) < ks.length := by omega
                    have HK1 : Hid (k = k1 + 1) := hk1
                    have q0n : 0 < k := by omega
                    have q2n : k1 < ks.length := by omega
                    clear hk1 hk0
                    by_cases hab : za < zb
                    · have q3 : ¬ (zb ≤ za) := by omega
                      go_wp2_with fail
                      go_quiet ((first | (go_at_call 29; refine (keyOk_any y _ HYF.out).mono ?_; rintro e w'' ⟨he, rfl⟩; rw [hkey] at he; subst he; exact ⟨rfl, _, rfl⟩) | (go_at_call 33; refine (tContains_any _ _ _ y (HA1.out.below (below_drewN70 (Below.refl _ _) _))).mono ?_; rintro e w'' ⟨he, rfl⟩; rw [hin] at he; subst he; exact ⟨rfl, _, rfl⟩)))
                      go_wp2
                      go_roundw
                      case rel => exact ⟨k + 1, by omega, by go_num, HKT.out.succ HY.out hkey (take_none hin), HAT.out.succ (fun a b h0 ha hb => by rw [show k - 1 = k1 by have := HK1.out; omega, HZA.out] at ha; rw [HZB.out] at hb; cases ha; cases hb; exact hab), below_drewN70 HB.out _, hlt0, s0, s1⟩
                      case measure => simp [intOf]; omega
                    · have q3 : zb ≤ za := by omega
                      have HF : Hid (ringOk (ks, ns) = false) := ringOk_f (not_good_asc HZA.out (by rw [← HK1.out]; exact HZB.out) hab)
                      go_wp2_with fail
                      go_quiet ((first | (go_at_call 29; refine (keyOk_any y _ HYF.out).mono ?_; rintro e w'' ⟨he, rfl⟩; rw [hkey] at he; subst he; exact ⟨rfl, _, rfl⟩) | (go_at_call 33; refine (tContains_any _ _ _ y (HA1.out.below (below_drewN70 (Below.refl _ _) _))).mono ?_; rintro e w'' ⟨he, rfl⟩; rw [hin] at he; subst he; exact ⟨rfl, _, rfl⟩)))
                      go_wp2
                      go_ret
                      exact ⟨ret_bool (by rw [HF.out]), below_drewN70 HB.out _⟩
            · have hke : k = ks.length := by omega
              subst hke
              obtain ⟨b1, off1, cp1, za, hv1, hbl1, hza, d0⟩ := (HN.out.below HB.out).at (k := ks.length - 1) (by have hl : ns.length = ks.length := HL.out; omega)
              rw [show ns.length = ks.length from HL.out] at hv1
              cases hv1
              have HZA : Hid (ns[ks.length - 1]? = some za) := hza
              have q1 : (ks.length : Int) - 1 = ((ks.length - 1 : Nat) : Int) := by omega
              have q2 : ((ks.length - 1 : Nat) : Int) < ks.length := by omega
              clear hza
              by_cases hz : za ≤ 999999
              · have HF : Hid (ringOk (ks, ns) = true) := ringOk_t (RingGood.of (n := ks.length) (by omega) (by omega) rfl HL.out HZ0.out HKT.out HAT.out HZA.out hz)
                go_wp2
                go_ret
                exact ⟨ret_bool (by rw [HF.out]), HB.out⟩
              · have HF : Hid (ringOk (ks, ns) = false) := ringOk_f (not_good_big HZA.out hz)
                go_wp2
                go_ret
                exact ⟨ret_bool (by rw [HF.out]), HB.out⟩
        · have HF : Hid (ringOk (ks, ns) = false) := ringOk_f fun g => by have := g.2.2.2.1; simp only at this; rw [HZ0.out] at this; cases this; exact h4 rfl
          have h4' : (z0 == 1) = false := by simpa using h4
          have i1 : ¬ ((ks.length : Int) < 1) := by omega
          have i2 : ¬ ((5 : Int) < ks.length) := by omega
          have i3 : ((ks.length : Int) == (ks.length : Int)) = true := by simp
          clear h4
          go_enter Tryd.func11, Tryd.ntmps11
          go_wp2_with fail
          go_ret
          exact ⟨ret_bool (by rw [HF.out]), HB0.out⟩
      · have HF : Hid (ringOk (ks, ns) = false) := ringOk_f fun g => by have := g.2.2.1; simp only at this; omega
        have h3' : ((ns.length : Int) == (ks.length : Int)) = false := by simp; omega
        have i1 : ¬ ((ks.length : Int) < 1) := by omega
        have i2 : ¬ ((5 : Int) < ks.length) := by omega
        go_enter Tryd.func11, Tryd.ntmps11
        go_wp2_with fail
        go_ret
        exact ⟨ret_bool (by rw [HF.out]), HB0.out⟩
end Go.Proofs.YtdjpeickokoclaaDoor
/-
  The specification's RingOk.
-/
namespace Go.Proofs.YtdjpeickokoclaaDoor
open Go.RowKit
set_option linter.unusedVariables false
/-- Numbers so far, each greater than the one ahead, and not too great. -/
def AscBig (ns : List Int) (n : Nat) : Prop := ∀ (i : Nat) (a b : Int), i + 1 < n → ns[i]? = some a → ns[i + 1]? = some b → a < b ∧ b ≤ 999999
theorem AscBig.one (ns : List Int) : AscBig ns 1 := fun i a b hi => absurd hi (by omega)
theorem AscBig.succ {ns : List Int} {n : Nat} (h : AscBig ns n) (h2 : ∀ (a b : Int), ns[n - 1]? = some a → ns[n]? = some b → a < b ∧ b ≤ 999999) : AscBig ns (n + 1) := fun i a b hi ha hb => by
  by_cases e : i + 1 = n
  · subst e
    exact h2 a b (by simpa using ha) hb
  · exact h i a b (by omega) ha hb
theorem RingGood.of_spec {x : RingM} (h1 : 1 ≤ x.1.length) (h2 : x.1.length ≤ 5) (h3 : x.2.length = x.1.length) (h5 : x.2[0]? = some 1) (hk : KeysTo x.1 x.1.length) (ha : AscBig x.2 x.2.length) : RingGood x := by
  refine ⟨h1, h2, h3, h5, fun i k hk' => hk i k (List.getElem?_eq_some_iff.1 hk').1 hk', fun i a b ha' hb' => (ha i a b (List.getElem?_eq_some_iff.1 hb').1 ha' hb').1, fun i b hb => ?_⟩
  have hi := (List.getElem?_eq_some_iff.1 hb).1
  match i, hb with
  | 0, hb => rw [h5] at hb; cases hb; omega
  | i + 1, hb => exact (ha i _ b hi (List.getElem?_eq_getElem (by omega)) hb).2
set_option maxHeartbeats 4000000 in
theorem specRingOk_any (w : World) (v : Value) (x : RingM) (h : RingAt w v x) :
    Calls Tryd.prog 9 #[v] w fun e w' => e = .returned (.bool (ringOk x)) ∧ Below w.heap.size w w' := by
  obtain ⟨va, vn, rfl, ha, hn⟩ := h
  obtain ⟨ks, ns⟩ := x
  simp only at ha hn
  obtain ⟨a, cap, rfl, hc, hm⟩ := ha.form
  obtain ⟨a', cap', rfl, hc', hm'⟩ := hn.form
  have HA : Hid (TextsAt w (.slice a ks.length cap) ks) := ha
  have HN : Hid (IntsAt w (.slice a' ns.length cap') ns) := hn
  have HB0 : Hid (Below w.heap.size w (w.alloc (.cells #[.slice a ks.length cap, .slice a' ns.length cap'] 26))) := (Below.refl _ _).alloc (Nat.le_refl _) _
  unfold maxLen at hm hm'
  clear ha hn
  go_enter Tryd.func9, Tryd.ntmps9
  go_wp2_with fail
  go_loopw [3] (fun i wr => ∃ (k : Nat), k ≤ ks.length ∧ i = .int .i64 k ∧ KeysTo ks k ∧ Below w.heap.size w wr ∧ w.heap.size < wr.heap.size ∧ wr.cell? ⟨w.heap.size, 0, none⟩ = some (.slice a ks.length cap) ∧ wr.cell? ⟨w.heap.size, 1, none⟩ = some (.slice a' ns.length cap')) (fun i _ => ks.length - (intOf i).toNat)
  case atStart => exact ⟨0, Nat.zero_le _, rfl, KeysTo.zero _, HB0.out, by simp, by simp [go_sem], by simp [go_sem]⟩
  case round =>
    obtain ⟨k, hk, rfl, hkt, hb, hlt0, s0, s1⟩ := hrel
    have HB : Hid (Below w.heap.size w wr) := hb
    have HKT : Hid (KeysTo ks k) := hkt
    clear hb hkt
    by_cases hlt : k < ks.length
    · obtain ⟨b, off, cap1, y, hv, hbl, hy, hyf, c0⟩ := (HA.out.below HB.out).at (k := k) hlt
      cases hv
      have HY : Hid (ks[k]? = some y) := hy
      have HYF : Hid (y.size ≤ maxLen) := hyf
      clear hy hyf
      cases hkey : keyT y with
      | false =>
        have HF : Hid (ringOk (ks, ns) = false) := ringOk_f (not_good_key HY.out hkey)
        go_wp2_with (go_at_call 27; refine (l6Key_any y _ HYF.out).mono ?_; rintro e w' ⟨he, hw⟩; have hw2 := hw.symm; clear hw; subst hw2; rw [hkey] at he; subst he)
        go_ret
        exact ⟨ret_bool (by rw [HF.out]), HB.out⟩
      | true =>
        go_wp2_with (go_at_call 27; refine (l6Key_any y _ HYF.out).mono ?_; rintro e w' ⟨he, hw⟩; have hw2 := hw.symm; clear hw; subst hw2; rw [hkey] at he; subst he)
        obtain ⟨w1, hw1⟩ : ∃ w1, w1 = wr := ⟨_, rfl⟩
        subst hw1
        go_loopw [4] (fun j wr => ∃ (i : Nat), i ≤ k ∧ j = .int .i64 i ∧ (∀ q : Nat, q < i → ks[q]? ≠ some y) ∧ Below w.heap.size w wr ∧ w.heap.size < wr.heap.size ∧ wr.cell? ⟨w.heap.size, 0, none⟩ = some (.slice (some ⟨b, off, none⟩) ks.length cap) ∧ wr.cell? ⟨w.heap.size, 1, none⟩ = some (.slice a' ns.length cap')) (fun j _ => k - (intOf j).toNat)
        case atStart => exact ⟨0, Nat.zero_le _, rfl, fun q hq => absurd hq (by omega), HB.out, hlt0, s0, s1⟩
        case round =>
          clear s0 s1 c0 hlt0
          obtain ⟨i, hi, rfl, hno, hb2, hlt2, s0, s1⟩ := hrel
          have HB2 : Hid (Below w.heap.size w wr) := hb2
          have HNO : Hid (∀ q : Nat, q < i → ks[q]? ≠ some y) := hno
          clear hb2 hno
          obtain ⟨b3, off3, cap3, y3, hv3, hbl3, hy3, hyf3, c3⟩ := (HA.out.below HB2.out).at (k := k) hlt
          cases hv3
          rw [HY.out] at hy3
          cases hy3
          clear hyf3
          by_cases hik : i < k
          · obtain ⟨b4, off4, cap4, y4, hv4, hbl4, hy4, hyf4, c4⟩ := (HA.out.below HB2.out).at (k := i) (Nat.lt_trans hik hlt)
            cases hv4
            have HY4 : Hid (ks[i]? = some y4) := hy4
            clear hy4 hyf4
            have hil : i < ks.length := Nat.lt_trans hik hlt
            have hil' : (i : Int) < ks.length := by omega
            have hkl' : (k : Int) < ks.length := by omega
            cases hq : (y4.toList == y.toList) with
            | true =>
              have HF : Hid (ringOk (ks, ns) = false) := ringOk_f (not_good_twice HY.out hik (by rw [HY4.out, listInj401 (eq_of_beq hq)]))
              go_wp2_with fail
              go_quiet (fail)
              go_wp2
              go_ret
              exact ⟨ret_bool (by rw [HF.out]), below_drewN70 HB2.out _⟩
            | false =>
              have HNO2 : Hid (∀ q : Nat, q < i + 1 → ks[q]? ≠ some y) := fun q hq2 => by
                by_cases e : q = i
                · subst e; rw [HY4.out]; intro h; injection h with h; rw [h] at hq; simp at hq
                · exact HNO.out q (by omega)
              go_wp2_with fail
              go_quiet (fail)
              go_wp2
              go_roundw
              case rel => exact ⟨i + 1, by omega, by go_num, HNO2.out, below_drewN70 HB2.out _, hlt2, s0, s1⟩
              case measure => simp [intOf]; omega
          · have hie : i = k := by omega
            subst hie
            go_wp2
            go_roundw
            case rel => exact ⟨i + 1, by omega, by go_num, HKT.out.succ HY.out hkey HNO.out, HB2.out, hlt2, s0, s1⟩
            case measure => simp [intOf]; omega
    · have hke : k = ks.length := by omega
      subst hke
      go_wp2_with fail
      obtain ⟨w1, hw1⟩ : ∃ w1, w1 = wr := ⟨_, rfl⟩
      subst hw1
      go_loopw [5] (fun j wr => ∃ (i : Nat), 1 ≤ i ∧ j = .int .i64 i ∧ i ≤ ns.length + 1 ∧ AscBig ns i ∧ Below w.heap.size w wr ∧ w.heap.size < wr.heap.size ∧ wr.cell? ⟨w.heap.size, 0, none⟩ = some (.slice a ks.length cap) ∧ wr.cell? ⟨w.heap.size, 1, none⟩ = some (.slice a' ns.length cap')) (fun j _ => ns.length + 1 - (intOf j).toNat)
      case atStart => exact ⟨1, Nat.le_refl _, rfl, by omega, AscBig.one _, HB.out, hlt0, s0, s1⟩
      case round =>
        clear s0 s1 hlt0
        obtain ⟨i, hi1, rfl, hi, has, hb2, hlt2, s0, s1⟩ := hrel
        have HB2 : Hid (Below w.heap.size w wr) := hb2
        have HAS : Hid (AscBig ns i) := has
        clear hb2 has
        by_cases hil : i < ns.length
        · obtain ⟨i1, hi2⟩ : ∃ i1, i = i1 + 1 := ⟨i - 1, by omega⟩
          obtain ⟨b1, off1, cp1, za, hv1, hbl1, hza, d0⟩ := (HN.out.below HB2.out).at (k := i1) (by omega)
          cases hv1
          obtain ⟨b2, off2, cp2, zb, hv2, hbl2, hzb, d1⟩ := (HN.out.below HB2.out).at (k := i) hil
          cases hv2
          have HZA : Hid (ns[i1]? = some za) := hza
          have HZB : Hid (ns[i]? = some zb) := hzb
          clear hza hzb
          have q1 : IntKind.i64.wrap ((i : Int) - 1) = (i1 : Int) := by rw [show ((i : Int) - 1) = (i1 : Int) by omega]; exact IntWalk.i64_in _ (by omega)
          have q2 : (i1 : Int) < ns.length := by omega
          have q2n : i1 < ns.length := by omega
          have HI1 : Hid (i = i1 + 1) := hi2
          clear hi2
          by_cases hab : za < zb
          · have q3 : ¬ (zb ≤ za) := by omega
            by_cases hbig : zb ≤ 999999
            · have q4 : ¬ (999999 < zb) := by omega
              have HAS2 : Hid (AscBig ns (i + 1)) := HAS.out.succ fun a b ha hb => by rw [show i - 1 = i1 by have := HI1.out; omega, HZA.out] at ha; rw [HZB.out] at hb; cases ha; cases hb; exact ⟨hab, hbig⟩
              go_wp2_with fail
              go_quiet (fail)
              go_wp2
              go_roundw
              case rel => exact ⟨i + 1, by omega, by go_num, by omega, HAS2.out, below_drewN70 HB2.out _, hlt2, s0, s1⟩
              case measure => simp [intOf]; omega
            · have q4 : 999999 < zb := by omega
              have HF : Hid (ringOk (ks, ns) = false) := ringOk_f (not_good_big HZB.out hbig)
              go_wp2_with fail
              go_quiet (fail)
              go_wp2
              go_ret
              exact ⟨ret_bool (by rw [HF.out]), below_drewN70 HB2.out _⟩
          · have q3 : zb ≤ za := by omega
            have HF : Hid (ringOk (ks, ns) = false) := ringOk_f (not_good_asc HZA.out (by rw [← HI1.out]; exact HZB.out) hab)
            go_wp2_with fail
            go_quiet (fail)
            go_wp2
            go_ret
            exact ⟨ret_bool (by rw [HF.out]), below_drewN70 HB2.out _⟩
        · have HAL : Hid (AscBig ns ns.length) := fun p a b hp => HAS.out p a b (by omega)
          cases hin : inI (ks.length : Int) 1 5 with
          | false =>
            have HX : Hid _ := hin
            have HF : Hid (ringOk (ks, ns) = false) := ringOk_f fun g => by have g1 := g.1; have g2 := g.2.1; simp only at g1 g2; unfold inI at hin; simp at hin; have := hin (by omega); omega
            clear hin
            go_wp2_with (go_at_call 28; refine (l1InI_any _ _ _ _).mono ?_; rintro e w' ⟨he, hw⟩; have hw2 := hw.symm; clear hw; subst hw2; rw [HX.out] at he; subst he)
            go_ret
            exact ⟨ret_bool (by rw [HF.out]), HB2.out⟩
          | true =>
            have HX : Hid _ := hin
            have hks : 1 ≤ ks.length ∧ ks.length ≤ 5 := by unfold inI at hin; simp at hin; omega
            clear hin
            by_cases hll : ns.length = ks.length
            · obtain ⟨bn, offn, capn, z0, hvn, hbn, hz0, e0⟩ := (HN.out.below HB2.out).at (k := 0) (by omega)
              cases hvn
              rw [Nat.add_zero] at e0
              have HZ0 : Hid (ns[0]? = some z0) := hz0
              clear hz0
              have HLL : Hid (LenIs ns ks.length) := hll
              have q5 : ((ns.length : Int) == (ks.length : Int)) = true := by simp; omega
              have q6 : (0 : Int) < ns.length := by omega
              have q7 : 0 < ns.length := by omega
              clear hll
              by_cases hz1 : z0 = 1
              · have HF : Hid (ringOk (ks, ns) = true) := ringOk_t (RingGood.of_spec hks.1 hks.2 HLL.out (by rw [← hz1]; exact HZ0.out) HKT.out HAL.out)
                subst hz1
                go_wp2_with (go_at_call 28; refine (l1InI_any _ _ _ _).mono ?_; rintro e w' ⟨he, hw⟩; have hw2 := hw.symm; clear hw; subst hw2; rw [HX.out] at he; subst he)
                go_ret
                exact ⟨ret_bool (by rw [HF.out]), HB2.out⟩
              · have HF : Hid (ringOk (ks, ns) = false) := ringOk_f fun g => by have := g.2.2.2.1; simp only at this; rw [HZ0.out] at this; cases this; exact hz1 rfl
                have q8 : (z0 == 1) = false := by simpa using hz1
                clear hz1
                go_wp2_with (go_at_call 28; refine (l1InI_any _ _ _ _).mono ?_; rintro e w' ⟨he, hw⟩; have hw2 := hw.symm; clear hw; subst hw2; rw [HX.out] at he; subst he)
                go_ret
                exact ⟨ret_bool (by rw [HF.out]), HB2.out⟩
            · have HF : Hid (ringOk (ks, ns) = false) := ringOk_f fun g => by have := g.2.2.1; simp only at this; omega
              have q5 : ((ns.length : Int) == (ks.length : Int)) = false := by simp; omega
              go_wp2_with (go_at_call 28; refine (l1InI_any _ _ _ _).mono ?_; rintro e w' ⟨he, hw⟩; have hw2 := hw.symm; clear hw; subst hw2; rw [HX.out] at he; subst he)
              go_ret
              exact ⟨ret_bool (by rw [HF.out]), HB2.out⟩
end Go.Proofs.YtdjpeickokoclaaDoor
/-
  RingKey of both.
-/
namespace Go.Proofs.YtdjpeickokoclaaDoor
open Go.RowKit
set_option linter.unusedVariables false
set_option maxHeartbeats 2000000 in
theorem implRingKey_any (w : World) (v : Value) (x : RingM) (n : Int) (h : RingAt w v x) :
    Calls Tryd.prog 12 #[v, .int .i64 n] w fun e w' => e = .returned (.string (rkT x n)) ∧ Below w.heap.size w w' := by
  obtain ⟨a, l, cap, a', l', cap', rfl⟩ := h.form2
  obtain ⟨ks, ns⟩ := x
  obtain ⟨W, hW⟩ : ∃ W, w.alloc (.cells #[.slice a l cap, .slice a' l' cap'] 26) = W := ⟨_, rfl⟩
  have HB0 : Hid (Below w.heap.size w (w.alloc (.cells #[.slice a l cap, .slice a' l' cap'] 26))) := (Below.refl _ _).alloc (Nat.le_refl _) _
  have HR : Hid (RingAt w (.agg #[.slice a l cap, .slice a' l' cap']) (ks, ns)) := h
  clear h hW
  have HC : Hid (∀ (w : World) (v : Value), RingAt w v (ks, ns) → Calls Tryd.prog 11 #[v] w fun e w' => e = .returned (.bool (ringOk (ks, ns))) ∧ Below w.heap.size w w') := fun w v h => implRingOk_any w v (ks, ns) h
  have HG : Hid (ringOk (ks, ns) = true → (ks, ns).2.length = (ks, ns).1.length) := fun h => (ringOk_good h).2.2.1
  have HT : Hid (rkT (ks, ns) n = if ringOk (ks, ns) then keyOf (ks, ns).1 (ks, ns).2 n ⟨#[]⟩ else ⟨#[]⟩) := rfl
  cases hok : ringOk (ks, ns) with
  | false =>
    have HT2 : Hid (rkT (ks, ns) n = ⟨#[]⟩) := by show _ = _; rw [HT.out, hok]; rfl
    rw [hok] at HC
    clear HT HG hok
    go_enter Tryd.func12, Tryd.ntmps12
    go_wp2_with fail
    refine (HC.out _ _ (HR.out.below HB0.out)).mono ?_
    rintro e w1 ⟨rfl, hb1⟩
    have HB1 : Hid (Below w.heap.size w w1) := HB0.out.trans (hb1.mono HB0.out.size)
    clear hb1
    go_wp2
    go_ret
    exact ⟨by rw [HT2.out]; rfl, HB1.out⟩
  | true =>
    have HT2 : Hid (rkT (ks, ns) n = keyOf (ks, ns).1 (ks, ns).2 n ⟨#[]⟩) := by show _ = _; rw [HT.out, hok]; rfl
    have HL : Hid ((ks, ns).2.length = (ks, ns).1.length) := HG.out hok
    rw [hok] at HC
    clear HT HG hok
    go_enter Tryd.func12, Tryd.ntmps12
    go_wp2_with fail
    refine (HC.out _ _ (HR.out.below HB0.out)).mono ?_
    rintro e w1 ⟨rfl, hb1⟩
    have HB1 : Hid (Below w.heap.size w w1) := HB0.out.trans (hb1.mono HB0.out.size)
    have s0 : w1.cell? ⟨w.heap.size, 0, none⟩ = some (.slice a l cap) := (hb1.cell (p := ⟨w.heap.size, 0, none⟩) (by simp)).trans (by simp [go_sem])
    have s1 : w1.cell? ⟨w.heap.size, 1, none⟩ = some (.slice a' l' cap') := (hb1.cell (p := ⟨w.heap.size, 1, none⟩) (by simp)).trans (by simp [go_sem])
    have hz1 : w.heap.size < w1.heap.size := by have := hb1.size; simp at this; omega
    obtain ⟨va, vn, hvv, ha, hn⟩ := HR.out
    cases hvv
    simp only at ha hn
    obtain ⟨_, _, hva, hc, hm⟩ := ha.form
    cases hva
    obtain ⟨_, _, hvn, hc', hm'⟩ := hn.form
    cases hvn
    have HA : Hid (TextsAt w (.slice a ks.length cap) ks) := ha
    have HN : Hid (IntsAt w (.slice a' ns.length cap') ns) := hn
    have hle1 : ns.length ≤ ks.length := by have h9 : ns.length = ks.length := HL.out; omega
    have hle2 : ks.length ≤ ns.length := by have h9 : ns.length = ks.length := HL.out; omega
    unfold maxLen at hm hm'
    clear ha hn hb1
    go_wp2_with fail
    go_loopw [5, 14] (fun c i wr => ∃ (k : Nat), k ≤ ks.length ∧ i = .int .i64 k ∧ c = .string (keyOf (ks.take k) (ns.take k) n ⟨#[]⟩) ∧ Below w.heap.size w wr ∧ w.heap.size < wr.heap.size ∧ wr.cell? ⟨w.heap.size, 0, none⟩ = some (.slice a ks.length cap) ∧ wr.cell? ⟨w.heap.size, 1, none⟩ = some (.slice a' ns.length cap')) (fun c i _ => ks.length - (intOf i).toNat)
    case atStart => exact ⟨0, Nat.zero_le _, rfl, rfl, HB1.out, hz1, s0, s1⟩
    case round =>
      obtain ⟨k, hk, rfl, rfl, hb, hlt0, s0, s1⟩ := hrel
      have HB : Hid (Below w.heap.size w wr) := hb
      clear hb
      by_cases hlt : k < ks.length
      · obtain ⟨b, off, cap1, y, hv, hbl, hy, hyf, c0⟩ := (HA.out.below HB.out).at (k := k) hlt
        cases hv
        obtain ⟨b1, off1, cp1, f, hv1, hbl1, hf, d0⟩ := (HN.out.below HB.out).at (k := k) (by omega)
        cases hv1
        have HK : Hid (keyOf (ks.take (k + 1)) (ns.take (k + 1)) n ⟨#[]⟩ = if f ≤ n then y else keyOf (ks.take k) (ns.take k) n ⟨#[]⟩) := keyOf_take hy hf
        have hln : k < ns.length := by omega
        clear hy hyf hf
        by_cases hfn : f ≤ n
        · have HK2 : Hid (keyOf (ks.take (k + 1)) (ns.take (k + 1)) n ⟨#[]⟩ = y) := by show _ = _; rw [HK.out, if_pos hfn]
          go_wp2
          go_roundw
          case rel => exact ⟨k + 1, by omega, by go_num, by rw [HK2.out], HB.out, hlt0, s0, s1⟩
          case measure => simp [intOf]; omega
        · have HK2 : Hid (keyOf (ks.take (k + 1)) (ns.take (k + 1)) n ⟨#[]⟩ = keyOf (ks.take k) (ns.take k) n ⟨#[]⟩) := by show _ = _; rw [HK.out, if_neg hfn]
          go_wp2
          go_roundw
          case rel => exact ⟨k + 1, by omega, by go_num, by rw [HK2.out], HB.out, hlt0, s0, s1⟩
          case measure => simp [intOf]; omega
      · have hke : k = ks.length := by omega
        subst hke
        have HT : Hid (keyOf (ks.take ks.length) (ns.take ks.length) n ⟨#[]⟩ = keyOf ks ns n ⟨#[]⟩) := by show _ = _; rw [List.take_length, List.take_of_length_le (by omega)]
        go_wp2
        go_ret
        exact ⟨by rw [HT2.out, HT.out]; rfl, HB.out⟩
end Go.Proofs.YtdjpeickokoclaaDoor
