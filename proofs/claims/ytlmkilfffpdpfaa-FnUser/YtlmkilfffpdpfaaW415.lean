/-
  Lists of words, ascending, each once: listOk and l3Words; one's own words.
-/
import Derived.Test.YtlmkilfffpdpfaaGW2
import Derived.Test.YtlmkilfffpdpfaaGW92
import Derived.Deep.QuietTactic
import Derived.BigQuiet
import Derived.Below
namespace Go.Proofs.Ytlmkilfffpdpfaa
open Go.RowKit
set_option linter.unusedVariables false
theorem below_dn415 {B : Nat} {a w : World} (h : Below B a w) (n : Nat) : Below B a (w.drewN n) := by
  induction n with
  | zero => exact h
  | succ n ih => exact ih.drew
/-- Words, ascending, each once, so many. -/
def WordsTo (ws : List ByteArray) (n : Nat) : Prop := (∀ (i : Nat) (s : ByteArray), i < n → ws[i]? = some s → wok s = true) ∧ ∀ (i : Nat) (a b : ByteArray), i + 1 < n → ws[i]? = some a → ws[i + 1]? = some b → Op.bytesLess a.toList b.toList = true
def ListGood (ws : List ByteArray) : Prop := ws.length ≤ 300 ∧ WordsTo ws ws.length
open Classical in
noncomputable def listT (ws : List ByteArray) : Bool := decide (ListGood ws)
theorem listT_t {ws : List ByteArray} (h : ListGood ws) : listT ws = true := by unfold listT; classical exact decide_eq_true h
theorem listT_f {ws : List ByteArray} (h : ¬ ListGood ws) : listT ws = false := by unfold listT; classical exact decide_eq_false h
theorem listT_good {ws : List ByteArray} (h : listT ws = true) : ListGood ws := by unfold listT at h; classical exact of_decide_eq_true h
theorem WordsTo.zero (ws : List ByteArray) : WordsTo ws 0 := ⟨fun i s h => absurd h (by omega), fun i a b h => absurd h (by omega)⟩
theorem WordsTo.succ {ws : List ByteArray} {n : Nat} {s : ByteArray} (h : WordsTo ws n) (hs : ws[n]? = some s) (h1 : wok s = true) (h2 : ∀ a, 0 < n → ws[n - 1]? = some a → Op.bytesLess a.toList s.toList = true) : WordsTo ws (n + 1) := by
  refine ⟨fun i x hi hx => ?_, fun i a b hi ha hb => ?_⟩
  · by_cases e : i = n
    · subst e; rw [hs] at hx; cases hx; exact h1
    · exact h.1 i x (by omega) hx
  · by_cases e : i + 1 = n
    · subst e; rw [hs] at hb; cases hb; exact h2 a (by omega) (by simpa using ha)
    · exact h.2 i a b (by omega) ha hb
theorem no_word {ws : List ByteArray} {i : Nat} {s : ByteArray} (hs : ws[i]? = some s) (h : wok s = false) : ¬ ListGood ws := fun g => by
  have := g.2.1 i s (List.getElem?_eq_some_iff.1 hs).1 hs
  rw [h] at this; cases this
theorem no_asc {ws : List ByteArray} {i : Nat} {a b : ByteArray} (ha : ws[i]? = some a) (hb : ws[i + 1]? = some b) (h : Op.bytesLess a.toList b.toList = false) : ¬ ListGood ws := fun g => by
  have := g.2.2 i a b (List.getElem?_eq_some_iff.1 hb).1 ha hb
  rw [h] at this; cases this
/-- One's own words. -/
noncomputable def ownT (ws : List ByteArray) : Bool := listT ws && decide (ws.length ≤ 10)
set_option maxHeartbeats 4000000 in
theorem listOk_any (w : World) (v : Value) (ws : List ByteArray) (h : TextsAt w v ws) :
    Calls Try.prog 27 #[v] w fun e w' => e = .returned (.bool (listT ws)) ∧ Below w.heap.size w w' := by
  obtain ⟨a, cap, rfl, hc, hm⟩ := h.form
  have HA : Hid (TextsAt w (.slice a ws.length cap) ws) := h
  unfold maxLen at hm
  clear h
  by_cases hbig : (300 : Int) < ws.length
  · have HF : Hid (listT ws = false) := listT_f fun g => by have := g.1; omega
    go_enter Try.func27, Try.ntmps27
    go_wp2
    go_ret
    exact ⟨ret_bool (by rw [HF.out]), Below.refl _ _⟩
  go_enter Try.func27, Try.ntmps27
  go_wp2_with fail
  go_loopw [10] (fun i wr => ∃ (k : Nat), k ≤ ws.length ∧ i = .int .i64 k ∧ WordsTo ws k ∧ Below w.heap.size w wr) (fun i _ => ws.length - (intOf i).toNat)
  case atStart => exact ⟨0, Nat.zero_le _, rfl, WordsTo.zero _, Below.refl _ _⟩
  case round =>
    obtain ⟨k, hk, rfl, hwt, hb⟩ := hrel
    have HB : Hid (Below w.heap.size w wr) := hb
    have HW : Hid (WordsTo ws k) := hwt
    clear hb hwt
    by_cases hlt : k < ws.length
    · obtain ⟨b, off, cap1, s, hv, hbl, hs, hsf, c0⟩ := (HA.out.below HB.out).at (k := k) hlt
      cases hv
      have HS : Hid (ws[k]? = some s) := hs
      have HSF : Hid (s.size ≤ maxLen) := hsf
      have hlt' : (k : Int) < ws.length := by omega
      clear hs hsf
      cases hwk : wok s with
      | false =>
        have HF : Hid (listT ws = false) := listT_f (no_word HS.out hwk)
        go_wp2_with (go_at_call 35; refine (wordOk_any s _ HSF.out).mono ?_; rintro e w'' ⟨he, hw⟩; have hw2 := hw.symm; clear hw; subst hw2; rw [hwk] at he; subst he)
        go_ret
        exact ⟨ret_bool (by rw [HF.out]), HB.out⟩
      | true =>
        by_cases hk0 : k = 0
        · subst hk0
          rw [Nat.add_zero] at c0
          go_wp2_with (go_at_call 35; refine (wordOk_any s _ HSF.out).mono ?_; rintro e w'' ⟨he, hw⟩; have hw2 := hw.symm; clear hw; subst hw2; rw [hwk] at he; subst he)
          go_roundw
          case rel => exact ⟨0 + 1, by omega, by go_num, HW.out.succ HS.out hwk (fun a h0 => absurd h0 (by omega)), HB.out⟩
          case measure => simp [intOf]; omega
        · have q0 : (0 : Int) < (k : Int) := by omega
          obtain ⟨k1, hk1⟩ : ∃ k1, k = k1 + 1 := ⟨k - 1, by omega⟩
          obtain ⟨b1, off1, cp1, r, hv1, hbl1, hr, hrf, d0⟩ := (HA.out.below HB.out).at (k := k1) (by omega)
          cases hv1
          have HR : Hid (ws[k1]? = some r) := hr
          clear hr hrf
          have q1 : IntKind.i64.wrap ((k : Int) - 1) = (k1 : Int) := by rw [show ((k : Int) - 1) = (k1 : Int) by omega]; exact IntWalk.i64_in _ (by omega)
          have q2 : (k1 : Int) < ws.length := by omega
          have q0n : 0 < k := by omega
          have q2n : k1 < ws.length := by omega
          have HK1 : Hid (k = k1 + 1) := hk1
          clear hk1 hk0
          cases hlss : Op.bytesLess r.toList s.toList with
          | false =>
            have HF : Hid (listT ws = false) := listT_f (no_asc HR.out (by rw [← HK1.out]; exact HS.out) hlss)
            go_wp2_with (go_at_call 35; refine (wordOk_any s _ HSF.out).mono ?_; rintro e w'' ⟨he, hw⟩; have hw2 := hw.symm; clear hw; subst hw2; rw [hwk] at he; subst he)
            go_ret
            exact ⟨ret_bool (by rw [HF.out]), HB.out⟩
          | true =>
            have HW2 : Hid (WordsTo ws (k + 1)) := HW.out.succ HS.out hwk (fun a h0 ha => by rw [show k - 1 = k1 by have := HK1.out; omega, HR.out] at ha; cases ha; exact hlss)
            go_wp2_with (go_at_call 35; refine (wordOk_any s _ HSF.out).mono ?_; rintro e w'' ⟨he, hw⟩; have hw2 := hw.symm; clear hw; subst hw2; rw [hwk] at he; subst he)
            go_roundw
            case rel => exact ⟨k + 1, by omega, by go_num, HW2.out, HB.out⟩
            case measure => simp [intOf]; omega
    · have hke : k = ws.length := by omega
      subst hke
      have HF : Hid (listT ws = true) := listT_t ⟨by omega, HW.out⟩
      go_wp2
      go_ret
      exact ⟨ret_bool (by rw [HF.out]), HB.out⟩
set_option maxHeartbeats 4000000 in
theorem l3Words_any (w : World) (v : Value) (ws : List ByteArray) (h : TextsAt w v ws) :
    Calls Try.prog 32 #[v] w fun e w' => e = .returned (.bool (listT ws)) ∧ Below w.heap.size w w' := by
  obtain ⟨a, cap, rfl, hc, hm⟩ := h.form
  have HA : Hid (TextsAt w (.slice a ws.length cap) ws) := h
  unfold maxLen at hm
  clear h
  go_enter Try.func32, Try.ntmps32
  go_wp2_with fail
  go_loopw [3] (fun i wr => ∃ (k : Nat), k ≤ ws.length ∧ i = .int .i64 k ∧ WordsTo ws k ∧ Below w.heap.size w wr) (fun i _ => ws.length - (intOf i).toNat)
  case atStart => exact ⟨0, Nat.zero_le _, rfl, WordsTo.zero _, Below.refl _ _⟩
  case round =>
    obtain ⟨k, hk, rfl, hwt, hb⟩ := hrel
    have HB : Hid (Below w.heap.size w wr) := hb
    have HW : Hid (WordsTo ws k) := hwt
    clear hb hwt
    by_cases hlt : k < ws.length
    · obtain ⟨b, off, cap1, s, hv, hbl, hs, hsf, c0⟩ := (HA.out.below HB.out).at (k := k) hlt
      cases hv
      have HS : Hid (ws[k]? = some s) := hs
      have HSF : Hid (s.size ≤ maxLen) := hsf
      have hlt' : (k : Int) < ws.length := by omega
      clear hs hsf
      cases hwk : wok s with
      | false =>
        have HF : Hid (listT ws = false) := listT_f (no_word HS.out hwk)
        go_wp2_with fail
        go_quiet ((first | (go_at_call 38; refine (l1Word_any s _ HSF.out).mono ?_; rintro e w'' ⟨he, rfl⟩; rw [hwk] at he; subst he; exact ⟨rfl, _, rfl⟩)))
        go_wp2
        go_ret
        exact ⟨ret_bool (by rw [HF.out]), below_dn415 HB.out _⟩
      | true =>
        by_cases hk0 : k = 0
        · subst hk0
          rw [Nat.add_zero] at c0
          go_wp2_with fail
          go_quiet ((first | (go_at_call 38; refine (l1Word_any s _ HSF.out).mono ?_; rintro e w'' ⟨he, rfl⟩; rw [hwk] at he; subst he; exact ⟨rfl, _, rfl⟩)))
          go_wp2
          go_roundw
          case rel => exact ⟨0 + 1, by omega, by go_num, HW.out.succ HS.out hwk (fun a h0 => absurd h0 (by omega)), below_dn415 HB.out _⟩
          case measure => simp [intOf]; omega
        · have q0 : (0 : Int) < (k : Int) := by omega
          obtain ⟨k1, hk1⟩ : ∃ k1, k = k1 + 1 := ⟨k - 1, by omega⟩
          obtain ⟨b1, off1, cp1, r, hv1, hbl1, hr, hrf, d0⟩ := (HA.out.below HB.out).at (k := k1) (by omega)
          cases hv1
          have HR : Hid (ws[k1]? = some r) := hr
          clear hr hrf
          have q1 : IntKind.i64.wrap ((k : Int) - 1) = (k1 : Int) := by rw [show ((k : Int) - 1) = (k1 : Int) by omega]; exact IntWalk.i64_in _ (by omega)
          have q2 : (k1 : Int) < ws.length := by omega
          have q0n : 0 < k := by omega
          have q2n : k1 < ws.length := by omega
          have HK1 : Hid (k = k1 + 1) := hk1
          clear hk1 hk0
          cases hlss : Op.bytesLess r.toList s.toList with
          | false =>
            have HF : Hid (listT ws = false) := listT_f (no_asc HR.out (by rw [← HK1.out]; exact HS.out) hlss)
            go_wp2_with fail
            go_quiet ((first | (go_at_call 38; refine (l1Word_any s _ HSF.out).mono ?_; rintro e w'' ⟨he, rfl⟩; rw [hwk] at he; subst he; exact ⟨rfl, _, rfl⟩)))
            go_wp2
            go_ret
            exact ⟨ret_bool (by rw [HF.out]), below_dn415 HB.out _⟩
          | true =>
            have HW2 : Hid (WordsTo ws (k + 1)) := HW.out.succ HS.out hwk (fun a h0 ha => by rw [show k - 1 = k1 by have := HK1.out; omega, HR.out] at ha; cases ha; exact hlss)
            go_wp2_with fail
            go_quiet ((first | (go_at_call 38; refine (l1Word_any s _ HSF.out).mono ?_; rintro e w'' ⟨he, rfl⟩; rw [hwk] at he; subst he; exact ⟨rfl, _, rfl⟩)))
            go_wp2
            go_roundw
            case rel => exact ⟨k + 1, by omega, by go_num, HW2.out, below_dn415 HB.out _⟩
            case measure => simp [intOf]; omega
    · have hke : k = ws.length := by omega
      subst hke
      by_cases hbig : (ws.length : Int) ≤ 300
      · have HF : Hid (listT ws = true) := listT_t ⟨by omega, HW.out⟩
        go_wp2
        go_ret
        exact ⟨ret_bool (by rw [HF.out]), HB.out⟩
      · have HF : Hid (listT ws = false) := listT_f fun g => by have := g.1; omega
        go_wp2
        go_ret
        exact ⟨ret_bool (by rw [HF.out]), HB.out⟩
set_option maxHeartbeats 1000000 in
theorem ownOk_any (w : World) (v : Value) (ws : List ByteArray) (h : TextsAt w v ws) :
    Calls Try.prog 16 #[v] w fun e w' => e = .returned (.bool (ownT ws)) ∧ Below w.heap.size w w' := by
  obtain ⟨a, cap, rfl, hc, hm⟩ := h.form
  have HA : Hid (TextsAt w (.slice a ws.length cap) ws) := h
  clear h
  cases hl : listT ws with
  | false =>
    by_cases h10 : (ws.length : Int) ≤ 10
    · have HF : Hid (ownT ws = false) := by show _ = _; unfold ownT; rw [hl, decide_eq_true (by omega : ws.length ≤ 10)]; rfl
      go_enter Try.func16, Try.ntmps16
      go_wp2_with fail
      refine (listOk_any _ _ ws HA.out).mono ?_
      rintro e w1 ⟨rfl, hb1⟩
      rw [hl]
      have HB : Hid (Below w.heap.size w w1) := hb1
      clear hb1
      go_wp2
      go_ret
      exact ⟨ret_bool (by rw [HF.out]; first | done | rfl | exact decide_eq_false (by omega) | exact decide_eq_true (by omega)), HB.out⟩
    · have HF : Hid (ownT ws = false) := by show _ = _; unfold ownT; rw [hl, decide_eq_false (by omega : ¬ ws.length ≤ 10)]; rfl
      go_enter Try.func16, Try.ntmps16
      go_wp2
      go_ret
      exact ⟨ret_bool (by rw [HF.out]; first | done | rfl | exact decide_eq_false (by omega) | exact decide_eq_true (by omega)), Below.refl _ _⟩
  | true =>
    by_cases h10 : (ws.length : Int) ≤ 10
    · have HF : Hid (ownT ws = true) := by show _ = _; unfold ownT; rw [hl, decide_eq_true (by omega : ws.length ≤ 10)]; rfl
      go_enter Try.func16, Try.ntmps16
      go_wp2_with fail
      refine (listOk_any _ _ ws HA.out).mono ?_
      rintro e w1 ⟨rfl, hb1⟩
      rw [hl]
      have HB : Hid (Below w.heap.size w w1) := hb1
      clear hb1
      go_wp2
      go_ret
      exact ⟨ret_bool (by rw [HF.out]; first | done | rfl | exact decide_eq_false (by omega) | exact decide_eq_true (by omega)), HB.out⟩
    · have HF : Hid (ownT ws = false) := by show _ = _; unfold ownT; rw [hl, decide_eq_false (by omega : ¬ ws.length ≤ 10)]; rfl
      go_enter Try.func16, Try.ntmps16
      go_wp2
      go_ret
      exact ⟨ret_bool (by rw [HF.out]; first | done | rfl | exact decide_eq_false (by omega) | exact decide_eq_true (by omega)), Below.refl _ _⟩
set_option maxHeartbeats 1000000 in
theorem l10Own_any (w : World) (v : Value) (ws : List ByteArray) (h : TextsAt w v ws) :
    Calls Try.prog 20 #[v] w fun e w' => e = .returned (.bool (ownT ws)) ∧ Below w.heap.size w w' := by
  obtain ⟨a, cap, rfl, hc, hm⟩ := h.form
  have HA : Hid (TextsAt w (.slice a ws.length cap) ws) := h
  clear h
  cases hl : listT ws with
  | false =>
    by_cases h10 : (ws.length : Int) ≤ 10
    · have HF : Hid (ownT ws = false) := by show _ = _; unfold ownT; rw [hl, decide_eq_true (by omega : ws.length ≤ 10)]; rfl
      go_enter Try.func20, Try.ntmps20
      go_wp2_with fail
      refine (l3Words_any _ _ ws HA.out).mono ?_
      rintro e w1 ⟨rfl, hb1⟩
      rw [hl]
      have HB : Hid (Below w.heap.size w w1) := hb1
      clear hb1
      go_wp2
      go_ret
      exact ⟨ret_bool (by rw [HF.out]; first | done | rfl | exact decide_eq_false (by omega) | exact decide_eq_true (by omega)), HB.out⟩
    · have HF : Hid (ownT ws = false) := by show _ = _; unfold ownT; rw [hl, decide_eq_false (by omega : ¬ ws.length ≤ 10)]; rfl
      go_enter Try.func20, Try.ntmps20
      go_wp2_with fail
      refine (l3Words_any _ _ ws HA.out).mono ?_
      rintro e w1 ⟨rfl, hb1⟩
      rw [hl]
      have HB : Hid (Below w.heap.size w w1) := hb1
      clear hb1
      go_wp2
      go_ret
      exact ⟨ret_bool (by rw [HF.out]; first | done | rfl | exact decide_eq_false (by omega) | exact decide_eq_true (by omega)), HB.out⟩
  | true =>
    by_cases h10 : (ws.length : Int) ≤ 10
    · have HF : Hid (ownT ws = true) := by show _ = _; unfold ownT; rw [hl, decide_eq_true (by omega : ws.length ≤ 10)]; rfl
      go_enter Try.func20, Try.ntmps20
      go_wp2_with fail
      refine (l3Words_any _ _ ws HA.out).mono ?_
      rintro e w1 ⟨rfl, hb1⟩
      rw [hl]
      have HB : Hid (Below w.heap.size w w1) := hb1
      clear hb1
      go_wp2
      go_ret
      exact ⟨ret_bool (by rw [HF.out]; first | done | rfl | exact decide_eq_false (by omega) | exact decide_eq_true (by omega)), HB.out⟩
    · have HF : Hid (ownT ws = false) := by show _ = _; unfold ownT; rw [hl, decide_eq_false (by omega : ¬ ws.length ≤ 10)]; rfl
      go_enter Try.func20, Try.ntmps20
      go_wp2_with fail
      refine (l3Words_any _ _ ws HA.out).mono ?_
      rintro e w1 ⟨rfl, hb1⟩
      rw [hl]
      have HB : Hid (Below w.heap.size w w1) := hb1
      clear hb1
      go_wp2
      go_ret
      exact ⟨ret_bool (by rw [HF.out]; first | done | rfl | exact decide_eq_false (by omega) | exact decide_eq_true (by omega)), HB.out⟩
end Go.Proofs.Ytlmkilfffpdpfaa
