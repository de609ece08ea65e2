/-
  Contracts of copies, marks and what holds them, in one form.
-/
import Derived.Test.YtfpkphkgnolkkaaW140
namespace Go.Proofs.Ytfpkphkgnolkkaa
open Go.RowKit
set_option linter.unusedVariables false
theorem markAffixS_x (lo hi k : Nat) (w : World) (v : Value) (x : List Aff) (h : AffsOwn lo hi w v x) (hs : x.length ≤ 1048576) (hk : k ≤ 10000000000) (hlo : hi ≤ w.heap.size) (hlh : lo ≤ hi) :
    Calls Try.prog 25 #[v, .int .i64 k] w fun e w' => e = .returned (.int .i64 ((k + x.length * 5 : Nat) : Int)) ∧ AffsOwn lo hi w' v (marksA k x.length) ∧ Wr lo hi w w' :=
  (markAffixS_any lo hi k w v x.length _ h.1 (by omega) (by omega) (by omega)).mono fun e w' ⟨h1, h2, h3, _⟩ => ⟨h1, h2, h3⟩
set_option maxHeartbeats 1000000 in
theorem markStringS_r (lo hi k : Nat) (w : World) (v : Value) (n : Nat) (C : (Nat → Value) → Prop) (h : RowOwn 9 1 lo hi w v n C) (hn : n ≤ 2000000000) (hk : k ≤ 100000000000) (hlo : lo ≤ w.heap.size) :
    Calls Try.prog 18 #[v, .int .i64 k] w fun e w' => e = .returned (.int .i64 ((k + n : Nat) : Int)) ∧ TextsRow lo hi w' v (marks k n) ∧ Wr lo hi w w' ∧ w.grownBy w' (rowOf v n) := by
  obtain ⟨a, cap, rfl, hc, hm, hh⟩ := h
  have HC : Hid (cap ≤ maxLen) := hm
  have HMF : Hid (∀ (i : Nat) (x : ByteArray), (marks k n)[i]? = some x → x.size ≤ maxLen) := fun i x hx => by
    have hi : i < n := by have := (List.getElem?_eq_some_iff.1 hx).1; rwa [marks_length] at this
    rw [marks_at hi] at hx
    cases hx
    exact markT_fit _
  unfold maxLen at hm
  by_cases h0 : n = 0
  · subst h0
    clear hh
    have HR : Hid (TextsRow lo hi w (.slice a 0 cap) (marks k 0)) := ⟨⟨a, cap, rfl, hc, HC.out, fun hh => absurd rfl hh⟩, HMF.out⟩
    go_enter Try.func18, Try.ntmps18
    go_wp2
    go_loopw [1, 5] (fun kv i wr => kv = .int .i64 k ∧ i = .int .i64 0 ∧ wr = w) (fun _ i _ => 0)
    case atStart => exact ⟨rfl, rfl, rfl⟩
    case round =>
      obtain ⟨rfl, rfl, rfl⟩ := hrel
      go_wp2
      go_ret
      exact ⟨by simp, HR.out, Wr.refl _ _ _, grown_refl _ _⟩
  · obtain ⟨g, m, f0, rfl, hg, hgh, hle, hr, _⟩ := hh h0
    have HR : Hid (w.rowIs g 9 m f0) := hr
    clear hr hh
    go_enter Try.func18, Try.ntmps18
    go_wp2
    go_loopw [1, 5] (fun kv i wr => ∃ (j : Nat) (f : Nat → Value), j ≤ n ∧ kv = .int .i64 (k + j) ∧ i = .int .i64 j ∧ wr.rowIs g 9 m f ∧ TxTo j (marks k n) f ∧ Wr lo hi w wr ∧ w.grownBy wr (some g)) (fun _ i _ => n - (intOf i).toNat)
    case atStart => exact ⟨0, f0, Nat.zero_le _, by simp, rfl, HR.out, fun j x hj => absurd hj (by omega), Wr.refl _ _ _, grown_refl _ _⟩
    case round =>
      obtain ⟨j, f, hj, rfl, rfl, hr, ha, hw, hb⟩ := hrel
      have HB : Hid (w.grownBy wr (some g)) := hb
      have HW : Hid (wr.rowIs g 9 m f) := hr
      have HA : Hid (TxTo j (marks k n) f) := ha
      have HR2 : Hid (Wr lo hi w wr) := hw
      have hlr : lo ≤ wr.heap.size := Nat.le_trans hlo hw.sz
      clear hb hr ha hw
      by_cases hlt : j < n
      · have HX : Hid ((marks k n)[j]? = some (markT (k + j))) := marks_at hlt
        have hm1 := markT_size (k + j)
        go_wp2_with fail
        refine (markText_int _ (k + j) (by push_cast; omega) (by omega) _).mono ?_
        rintro e w1 ⟨rfl, hb1⟩
        have HW1 : Hid (w1.rowIs g 9 m f) := HW.out.of_block (hb1.block g HW.out.lt)
        have HR3 : Hid (Wr lo hi w w1) := HR2.out.trans (Wr.of_below hb1 hlr)
        have HB1 : Hid (w.grownBy w1 (some g)) := grown_trans HB.out (grown_of_below _ hb1)
        have d0 := HW1.out.cell (i := j) (by omega)
        have g0 := HW1.out.frozen j
        clear hb1
        go_wp2
        go_roundw
        case rel =>
          refine ⟨j + 1, _, by omega, by go_num, by go_num, HW1.out.set j _, fun i x hi hx => ?_, HR3.out.trans (Wr.set w1 (p := ⟨g, j, none⟩) hg hgh rfl _), grown_trans HB1.out (grown_set _ _ _ _)⟩
          by_cases e : i = j
          · subst e
            rw [HX.out] at hx
            cases hx
            exact if_pos rfl
          · show (if i = j then _ else f i) = _
            rw [if_neg e]
            exact HA.out i x (by omega) hx
        case measure => simp [intOf]; omega
      · have hje : j = n := by omega
        subst hje
        go_wp2
        go_ret
        refine ⟨by push_cast; rfl, ⟨⟨_, cap, by rw [marks_length], by rw [marks_length]; exact hc, HC.out, fun _ => ⟨g, m, f, rfl, hg, hgh, by rw [marks_length]; exact hle, HW.out, by rw [marks_length]; exact HA.out⟩⟩, HMF.out⟩, HR2.out, by rw [rowOf_pos h0]; exact HB.out⟩
theorem markStringS_x (lo hi k : Nat) (w : World) (v : Value) (x : List ByteArray) (h : TextsRow lo hi w v x) (hs : x.length ≤ 1048576) (hk : k ≤ 10000000000) (hlo : hi ≤ w.heap.size) (hlh : lo ≤ hi) :
    Calls Try.prog 18 #[v, .int .i64 k] w fun e w' => e = .returned (.int .i64 ((k + x.length : Nat) : Int)) ∧ TextsRow lo hi w' v (marks k x.length) ∧ Wr lo hi w w' :=
  (markStringS_r lo hi k w v x.length _ h.1 (by omega) (by omega) (by omega)).mono fun e w' ⟨h1, h2, h3, _⟩ => ⟨h1, h2, h3⟩
theorem heldStringS_x (w : World) (v : Value) (k : Nat) (x : List ByteArray) (h : TextsAt w v (marks k x.length)) (hs : x.length ≤ 1048576) (hk : k ≤ 1000000000) :
    Calls Try.prog 21 #[v, .int .i64 k] w fun e w' => e = .returned (.int .i64 ((k + x.length : Nat) : Int)) ∧ Below w.heap.size w w' := by
  refine (heldStringS_any k x.length w v h (by omega) (by omega)).mono ?_
  rintro e w' ⟨rfl, hb⟩
  exact ⟨by push_cast; rfl, hb⟩
end Go.Proofs.Ytfpkphkgnolkkaa
