/-
  Plain mathematics: tables of machines, a state at a time.
-/
import Derived.Test.YtpjkgpglbbppjaaM20
namespace Go.Proofs.Ytpjkgpglbbppjaa
set_option linter.unusedVariables false
theorem tab_low (f : Int → Int → Int) (z : Bool → Int) (ss : List Sta) : ∀ (k j : Nat), k ≤ ss.length → j < ss.length - k → tab f z ss k j = 0
  | 0, j, _, _ => rfl
  | k + 1, j, hk, hj => by
    unfold tab
    rw [if_neg (by omega)]
    exact tab_low f z ss k j (by omega) (by omega)
theorem tab_next (f : Int → Int → Int) (z : Bool → Int) (ss : List Sta) (p : Nat) (s : Sta) (hs : ss[p]? = some s) (j : Nat) :
    tab f z ss (ss.length - p) j = if j = p then foldE f (tab f z ss (ss.length - (p + 1))) s.es (z s.ends) else tab f z ss (ss.length - (p + 1)) j := by
  have hp := (List.getElem?_eq_some_iff.1 hs).1
  rw [show ss.length - p = (ss.length - (p + 1)) + 1 by omega]
  show (if j = ss.length - 1 - (ss.length - (p + 1)) then _ else _) = _
  rw [show ss.length - 1 - (ss.length - (p + 1)) = p by omega]
  by_cases e : j = p
  · rw [if_pos e, if_pos e, e]
    simp [List.getD, hs]
  · rw [if_neg e, if_neg e]
/-- The greater of two. -/
def mx (x y : Int) : Int := if y > x then y else x
theorem mx_deep (a d : Int) : mx a (d + 1) = deepF a d := by
  unfold mx deepF
  rfl
theorem mx_le (a d : Int) : a ≤ mx a d ∧ d ≤ mx a d ∧ (mx a d = a ∨ mx a d = d) := by unfold mx; split <;> omega
/-- The row of a table while a state is worked out. -/
def midRow (D : Nat → Int) (p : Nat) (acc : Int) : Nat → Value := fun j => .int .i64 (if j = p then acc else D j)
theorem midRow_at (D : Nat → Int) (p : Nat) (acc : Int) : midRow D p acc p = .int .i64 acc := by simp [midRow]
theorem midRow_to (D : Nat → Int) (p : Nat) (acc : Int) {j : Nat} (h : j ≠ p) : midRow D p acc j = .int .i64 (D j) := by simp [midRow, h]
/-- A table as cells. -/
def tabRow (D : Nat → Int) : Nat → Value := fun j => .int .i64 (D j)
theorem staOk_es {n i : Nat} {s : Sta} (h : staOk n i s = true) : edsOk (i + 1) n s.es = true := by
  simp only [staOk, Bool.and_eq_true] at h
  exact h.1
/-- Where an edge leads. -/
theorem edge_to {ss : List Sta} (h : stasOk ss = true) {p : Nat} {s : Sta} (hs : ss[p]? = some s) {k : Nat} {e : Int × Int} (he : s.es[k]? = some e) : ∃ t : Nat, e.2 = t ∧ p < t ∧ t < ss.length := by
  have := edsOk_at (staOk_es (stasOk_at h hs)) he
  exact ⟨e.2.toNat, by omega, by omega, by omega⟩
/-- The lesser of two, as min and as l1Least have it. -/
def mnc (x y : Int) : Int := if y < x then y else x
def lsc (x y : Int) : Int := if x < y then x else y
theorem mnc_cnt (a d : Int) : mnc (a + d) 1000000000 = cntF a d := by unfold mnc cntF; split <;> split <;> omega
theorem lsc_cnt (a d : Int) : lsc (a + d) 1000000000 = cntF a d := rfl
theorem foldE_cnt_take {D : Nat → Int} (hD : ∀ j, 0 ≤ D j ∧ D j ≤ 1000000000) (es : List (Int × Int)) (b : Bool) : 0 ≤ foldE cntF D es (cntZ b) ∧ foldE cntF D es (cntZ b) ≤ 1000000000 := by
  refine foldE_cnt_bound hD es _ ?_ ?_ <;> (unfold cntZ; split <;> omega)
end Go.Proofs.Ytpjkgpglbbppjaa
