/-
  impl.knows, impl.MachineKnows.
-/
import Derived.Test.YtpjkgpglbbppjaaW54
import Derived.Test.YtpjkgpglbbppjaaW48
import Derived.Test.YtpjkgpglbbppjaaW53
namespace Go.Proofs.Ytpjkgpglbbppjaa
open Go.RowKit
set_option linter.unusedVariables false
set_option maxHeartbeats 1000000 in
theorem walk_any (w : World) (a : Option Addr) (n cap : Nat) :
    Calls Try.prog 36 #[.slice a n cap] w fun e w' => e = .returned (.func (.func 45) #[] #[.pointer (some ⟨w.heap.size + 1, 0, none⟩), .pointer (some ⟨w.heap.size, 0, none⟩)]) ∧ w' = (w.alloc (.cells #[.slice a n cap] 26)).alloc (.cells #[.int .i64 0] 3) := by
  go_enter Try.func36, Try.ntmps36
  go_wp2
  go_ret
  exact ⟨rfl, rfl⟩
set_option maxHeartbeats 2000000 in
theorem knows_any (w : World) (v : Value) (ss : List Sta) (s : ByteArray) (h : StatesAt w v ss) (hok : stasOk ss = true) (h1 : 1 ≤ ss.length) (hs : s.size ≤ maxLen) :
    Calls Try.prog 21 #[v, .string s] w fun e w' => e = .returned (.bool (knT ss s)) ∧ Below w.heap.size w w' := by
  obtain ⟨sa, cap, rfl, hc, hmx⟩ := h.form
  have HS : Hid (StatesAt w (.slice sa ss.length cap) ss) := h
  have HO : Hid (stasOk ss = true) := hok
  clear h hok
  unfold maxLen at hmx hs
  go_enter Try.func21, Try.ntmps21
  go_wp2_with (go_at_call 36; refine (walk_any _ _ _ _).mono ?_; rintro e w' ⟨rfl, rfl⟩)
  go_loopw [5, 7] (fun x i wr => ∃ (k : Nat), k ≤ s.size ∧ i = .int .i64 k ∧ x = .int .i64 (runT ss (s.data.toList.take k) 0) ∧ wr.cell? ⟨w.heap.size, 0, none⟩ = some (.slice sa ss.length cap) ∧ wr.cell? ⟨w.heap.size + 1, 0, none⟩ = some (.int .i64 (runT ss (s.data.toList.take k) 0)) ∧ wr.frozen? ⟨w.heap.size + 1, 0, none⟩ = false ∧ w.heap.size + 1 < wr.heap.size ∧ Below w.heap.size w wr) (fun _ i _ => s.size - (intOf i).toNat)
  case atStart => exact ⟨0, Nat.zero_le _, rfl, rfl, by simp [go_sem], by simp [go_sem, runT], by simp [go_sem], by simp, ((Below.refl _ _).alloc (Nat.le_refl _) _).alloc (by simp) _⟩
  case round =>
    obtain ⟨k, hk, rfl, rfl, m1, m2, m3, m4, hb⟩ := hrel
    have HB : Hid (Below w.heap.size w wr) := hb
    have HP : Hid (placeOk ss (runT ss (s.data.toList.take k) 0)) := runT_ok HO.out _ _ (.inr ⟨0, rfl, h1⟩)
    clear hb
    rcases HP.out with hneg | ⟨p, hp, hpl⟩
    · have HK : Hid (knT ss s = false) := by
        show knT ss s = false
        unfold knT
        rw [runT_stop ss s k hneg]
        rfl
      rw [hneg] at m2 ⊢
      clear hneg
      by_cases hlt : (k : Int) < s.size
      · go_wp2
        go_ret
        rw [HK.out]
        exact ⟨rfl, HB.out⟩
      · go_wp2
        go_ret
        rw [HK.out]
        exact ⟨rfl, HB.out⟩
    · have hp0 : (p : Int) ≥ 0 := by omega
      by_cases hlt : k < s.size
      · have HR : Hid (runT ss (s.data.toList.take (k + 1)) 0 = goT ss (p : Int) ((s[k].toNat : Nat) : Int)) := by
          show runT ss (s.data.toList.take (k + 1)) 0 = _
          rw [runT_take ss s k hlt, hp]
        rw [hp] at m2 ⊢
        clear hp
        have hb8 : s[k].toNat ≤ 255 := by have := s[k].toNat_lt; omega
        go_wp2_with fail
        refine (walk1_any _ _ _ _ ss _ _ (HS.out.below HB.out) HO.out m1 m2 m3 (.inr ⟨p, rfl, hpl⟩) m4 hb8).mono ?_
        rintro e w' ⟨rfl, n2, n3, hb'⟩
        have n1 : w'.cell? ⟨w.heap.size, 0, none⟩ = some (.slice sa ss.length cap) := (hb'.cell (p := ⟨w.heap.size, 0, none⟩) (by simp)).trans m1
        have n4 : w.heap.size + 1 < w'.heap.size := Nat.lt_of_lt_of_le m4 hb'.size
        have HB' : Hid (Below w.heap.size w w') := HB.out.trans (hb'.mono (by omega))
        clear hb' m1 m2 m3 m4
        go_wp2
        go_roundw
        case rel => exact ⟨k + 1, by omega, by go_num, by rw [HR.out], n1, by rw [HR.out]; exact n2, n3, n4, HB'.out⟩
        case measure => simp [intOf]; omega
      · obtain ⟨b', off, cap', st, ev, hv, _, _, hbl, hst, c1, _, _⟩ := (HS.out.below HB.out).at hpl
        cases hv
        have HK : Hid (knT ss s = st.ends) := by
          show knT ss s = st.ends
          unfold knT
          rw [← runT_all ss s k (by omega), hp]
          exact endsT_at hst
        rw [hp] at m2 ⊢
        clear hp hst
        go_wp2
        go_ret
        rw [HK.out]
        exact ⟨rfl, HB.out⟩
end Go.Proofs.Ytpjkgpglbbppjaa
