/-
  Plain mathematics: ranks.
-/
import Derived.Test.YtlpcmikljhoabaaM22
namespace Go.Proofs.Ytlpcmikljhoabaa
set_option linter.unusedVariables false
/-- What edges of lesser letters know, and more. -/
def sumT (D : Nat → Int) (es : List (Int × Int)) (c : Int) (z : Int) : Int := es.foldl (fun acc e => if e.1 < c then acc + D e.2.toNat else acc) z
theorem sumT_take {D : Nat → Int} {es : List (Int × Int)} {c z : Int} {k : Nat} {e : Int × Int} (he : es[k]? = some e) :
    sumT D (es.take (k + 1)) c z = if e.1 < c then sumT D (es.take k) c z + D e.2.toNat else sumT D (es.take k) c z := by
  unfold sumT
  rw [List.take_add_one, he]
  simp [List.foldl_append]
theorem sumT_add (D : Nat → Int) (c : Int) : ∀ (es : List (Int × Int)) (y z : Int), sumT D es c (y + z) = y + sumT D es c z
  | [], y, z => rfl
  | e :: es, y, z => by
    show sumT D es c (if e.1 < c then y + z + D e.2.toNat else y + z) = y + sumT D es c (if e.1 < c then z + D e.2.toNat else z)
    rw [← sumT_add D c es]
    congr 1
    split <;> omega
theorem sumT_bound {D : Nat → Int} (hD : ∀ j, 0 ≤ D j ∧ D j ≤ 1000000000) (c : Int) : ∀ (es : List (Int × Int)) (z : Int), z ≤ sumT D es c z ∧ sumT D es c z ≤ z + es.length * 1000000000
  | [], z => by simp [sumT]
  | e :: es, z => by
    show z ≤ sumT D es c (if e.1 < c then z + D e.2.toNat else z) ∧ sumT D es c (if e.1 < c then z + D e.2.toNat else z) ≤ _
    have h2 := hD e.2.toNat
    simp only [List.length_cons]
    by_cases h : e.1 < c
    · have h1 := sumT_bound hD c es (z + D e.2.toNat)
      rw [if_pos h]
      omega
    · have h1 := sumT_bound hD c es z
      rw [if_neg h]
      omega
theorem eds_low {first last : Int} {es : List (Int × Int)} (h : edsOk first last es = true) : ∀ (j : Nat) (e : Int × Int), es[j]? = some e → 97 + (j : Int) ≤ e.1
  | 0, e, he => by have := edsOk_at h he; omega
  | j + 1, e, he => by
    have hlt := (List.getElem?_eq_some_iff.1 he).1
    have hq : es[j]? = some es[j] := List.getElem?_eq_getElem (by omega)
    have h1 := eds_low h j _ hq
    have h2 := eds_asc h hq (j + 1) e (by omega) he
    omega
theorem eds_len {first last : Int} {es : List (Int × Int)} (h : edsOk first last es = true) : es.length ≤ 26 := by
  rcases Nat.lt_or_ge 26 es.length with hl | hl
  · have hq : es[26]? = some es[26] := List.getElem?_eq_getElem hl
    have h1 := eds_low h 26 _ hq
    have h2 := edsOk_at h hq
    omega
  · exact hl
/-- How many texts of a place stand ahead of those that go on by a letter. -/
def aheadT (ss : List Sta) (D : Nat → Int) (a : Int) (c : Int) : Int := sumT D (ss.getD a.toNat default).es c (cntZ (ss.getD a.toNat default).ends)
theorem aheadT_at {ss : List Sta} {p : Nat} {s : Sta} (hs : ss[p]? = some s) (D : Nat → Int) (c : Int) : aheadT ss D p c = sumT D s.es c (cntZ s.ends) := by
  unfold aheadT
  simp [List.getD, hs]
theorem cntZ_bound (b : Bool) : 0 ≤ cntZ b ∧ cntZ b ≤ 1 := by unfold cntZ; split <;> omega
theorem aheadT_bound {ss : List Sta} (hok : stasOk ss = true) {D : Nat → Int} (hD : ∀ j, 0 ≤ D j ∧ D j ≤ 1000000000) {p : Nat} {s : Sta} (hs : ss[p]? = some s) (c : Int) : 0 ≤ aheadT ss D p c ∧ aheadT ss D p c ≤ 26000000001 := by
  rw [aheadT_at hs]
  have h1 := sumT_bound hD c s.es (cntZ s.ends)
  have h2 := cntZ_bound s.ends
  have h3 := eds_len (staOk_es (stasOk_at hok hs))
  omega
/-- How many texts each place knows: the whole table. -/
def cTab (ss : List Sta) : Nat → Int := tab cntF cntZ ss ss.length
theorem cTab_bound (ss : List Sta) : ∀ j, 0 ≤ cTab ss j ∧ cTab ss j ≤ 1000000000 := tab_cnt_bound ss ss.length
/-- A byte of a text. -/
def byT (s : ByteArray) (k : Nat) : Int := ((s.data.toList.getD k 0).toNat : Int)
theorem byT_at (s : ByteArray) (k : Nat) (h : k < s.size) : byT s k = ((s[k].toNat : Nat) : Int) := by
  unfold byT
  have : s.data.toList.getD k 0 = s[k] := by
    rw [List.getD_eq_getElem?_getD, List.getElem?_eq_getElem (by simpa using h)]
    rfl
  rw [this]
/-- The rank so far. -/
def rkT (ss : List Sta) (D : Nat → Int) (s : ByteArray) : Nat → Int
  | 0 => 0
  | k + 1 => rkT ss D s k + aheadT ss D (runT ss (s.data.toList.take k) 0) (byT s k)
theorem kn_place {ss : List Sta} (hok : stasOk ss = true) (h1 : 1 ≤ ss.length) {s : ByteArray} (hk : knT ss s = true) (k : Nat) : ∃ p : Nat, runT ss (s.data.toList.take k) 0 = p ∧ p < ss.length := by
  rcases runT_ok hok (s.data.toList.take k) 0 (.inr ⟨0, rfl, h1⟩) with h | ⟨p, hp, hl⟩
  · have := runT_stop ss s k h
    unfold knT at hk
    rw [this] at hk
    simp [endsT] at hk
  · exact ⟨p, hp, hl⟩
theorem rkT_bound {ss : List Sta} (hok : stasOk ss = true) (h1 : 1 ≤ ss.length) {D : Nat → Int} (hD : ∀ j, 0 ≤ D j ∧ D j ≤ 1000000000) {s : ByteArray} (hk : knT ss s = true) : ∀ k, 0 ≤ rkT ss D s k ∧ rkT ss D s k ≤ k * 26000000001
  | 0 => by simp [rkT]
  | k + 1 => by
    have ih := rkT_bound hok h1 hD hk k
    obtain ⟨p, hp, hl⟩ := kn_place hok h1 hk k
    have := aheadT_bound hok hD (List.getElem?_eq_getElem hl) (byT s k)
    unfold rkT
    rw [hp]
    omega
end Go.Proofs.Ytlpcmikljhoabaa
