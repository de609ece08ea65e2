/-
  spec.Near.
-/
import Derived.Test.YtnbjjdbaddiijaaW14
import Derived.Test.YtnbjjdbaddiijaaW92
namespace Go.Proofs.Ytnbjjdbaddiijaa
open Go.RowKit
set_option linter.unusedVariables false
/-- What Near answers. -/
def nearL (s : ByteArray) : List ByteArray := if wok s then near s else []
theorem wok_le12 {s : ByteArray} (h : wok s = true) : s.size ≤ 12 := by
  simp only [wok, Bool.and_eq_true, decide_eq_true_eq] at h
  omega
theorem nearL_length (s : ByteArray) : (nearL s).length ≤ 1000 := by
  unfold nearL
  split
  · rename_i h
    have h1 := wok_le12 h
    have h2 := nearTo_length s (s.size + 1)
    unfold near
    omega
  · simp
theorem TextRow.at {w : World} {v : Value} {ss : List ByteArray} (h : TextRow w v ss) (hl : ss.length ≤ 1000) (hs : ∀ x ∈ ss, x.size ≤ 12) : TextsAt w v ss := by
  obtain ⟨g, cap, hv, hc, hcell, cur, hcur⟩ := h
  refine ⟨_, cap, hv, hc, by unfold maxLen; omega, fun i x hx => ?_, fun _ => ⟨g, 0, rfl, lt_of_block hcur, fun i x hx => ?_⟩⟩
  · have := hs x (List.mem_of_getElem? hx)
    unfold maxLen
    omega
  · rw [Nat.zero_add]
    exact hcell i x hx
set_option maxHeartbeats 1000000 in
theorem specNear_any (s : ByteArray) (w : World) (hs : s.size ≤ 1048576) :
    Calls Try.prog 8 #[.string s] w fun e w' => ∃ v, e = .returned v ∧ TextsAt w' v (nearL s) ∧ Below w.heap.size w w' := by
  have hm : s.size ≤ maxLen := by unfold maxLen; omega
  cases hw : wok s with
  | false =>
    have HL : Hid (nearL s = []) := if_neg (by rw [hw]; simp)
    go_enter Try.func8, Try.ntmps8
    go_wp2_with fail
    refine (l1Word_any s _ hm).mono ?_
    rintro e w' ⟨rfl, rfl⟩
    rw [hw]
    go_wp2
    go_ret
    rw [HL.out]
    refine ⟨_, rfl, ⟨_, _, rfl, Nat.zero_le _, Nat.zero_le _, fun i x hx => by simp at hx, fun hn => absurd rfl hn⟩, (Below.refl _ _).alloc (Nat.le_refl _) _⟩
  | true =>
    have HL : Hid (nearL s = near s) := if_pos hw
    have h12 := wok_le12 hw
    go_enter Try.func8, Try.ntmps8
    go_wp2_with fail
    refine (l1Word_any s _ hm).mono ?_
    rintro e w' ⟨rfl, rfl⟩
    rw [hw]
    go_wp2_with fail
    refine (l1Near_any s _ h12).mono ?_
    rintro e w1 ⟨v, rfl, ht, hb⟩
    have HB : Hid (Below w'.heap.size w' w1) := hb
    have HT : Hid (TextRow w1 v (near s)) := ht
    clear hb ht
    go_wp2
    go_ret
    rw [HL.out]
    exact ⟨_, rfl, HT.out.at (HL.out ▸ nearL_length s) (fun x hx => wok_le12 ((nearTo_mem s x _).1 hx).2.2), HB.out⟩
