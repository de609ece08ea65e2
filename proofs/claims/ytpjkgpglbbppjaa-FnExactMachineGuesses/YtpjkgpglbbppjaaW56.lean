/-
  spec.l3Go, spec.MachineKnows.
-/
import Derived.Test.YtpjkgpglbbppjaaW55
namespace Go.Proofs.Ytpjkgpglbbppjaa
open Go.RowKit
set_option linter.unusedVariables false
set_option maxRecDepth 100000 in
set_option maxHeartbeats 2000000 in
theorem l3Go_any (w : World) (v : Value) (ss : List Sta) (s : ByteArray) (h : StatesAt w v ss) (hok : stasOk ss = true) (h1 : 1 ≤ ss.length) (hs : s.size ≤ maxLen) :
    Calls Try.prog 17 #[v, .string s] w fun e w' => e = .returned (.int .i64 (runT ss s.data.toList 0)) ∧ Below w.heap.size w w' := by
  obtain ⟨sa, cap, rfl, hc, hmx⟩ := h.form
  have HS : Hid (StatesAt w (.slice sa ss.length cap) ss) := h
  have HO : Hid (stasOk ss = true) := hok
  clear h hok
  unfold maxLen at hmx hs
  go_enter Try.func17, Try.ntmps17
  go_wp2
  go_loopw [5, 6] (fun x i wr => ∃ (k p : Nat), k ≤ s.size ∧ i = .int .i64 k ∧ x = .int .i64 p ∧ p < ss.length ∧ runT ss (s.data.toList.take k) 0 = p ∧ Below w.heap.size w wr) (fun _ i _ => s.size - (intOf i).toNat)
  case atStart => exact ⟨0, 0, Nat.zero_le _, rfl, rfl, h1, rfl, Below.refl _ _⟩
  case round =>
    rename World => wo
    obtain ⟨k, p, hk, rfl, rfl, hpl, hp, hb⟩ := hrel
    have HB : Hid (Below w.heap.size w wo) := hb
    have HP : Hid (runT ss (s.data.toList.take k) 0 = p) := hp
    clear hb hp
    by_cases hlt : k < s.size
    · have hb8 : s[k].toNat ≤ 255 := by have := s[k].toNat_lt; omega
      obtain ⟨b, off, cap', st, ev, hv, _, _, hbl0, hst, c10, c20, hev⟩ := HS.out.at hpl
      cases hv
      obtain ⟨ea, ecap, rfl, hec, hem⟩ := hev.form
      have HR : Hid (runT ss (s.data.toList.take (k + 1)) 0 = lastT st.es ((s[k].toNat : Nat) : Int)) := by
        show runT ss (s.data.toList.take (k + 1)) 0 = _
        rw [runT_take ss s k hlt, HP.out]
        exact goT_at hst _
      have HG : Hid (placeOk ss (lastT st.es ((s[k].toNat : Nat) : Int))) := by
        rw [← goT_at hst]
        exact goT_ok HO.out (.inr ⟨p, rfl, hpl⟩) _
      have HE : Hid (EdgesIn 0 w (.slice ea st.es.length ecap) st.es) := hev
      clear hst hev
      unfold maxLen at hem
      go_wp2
      go_loopw [7, 8] (fun x i wr => ∃ (j : Nat), j ≤ st.es.length ∧ i = .int .i64 j ∧ x = .int .i64 (lastT (st.es.take j) ((s[k].toNat : Nat) : Int)) ∧ Below w.heap.size w wr) (fun _ i _ => st.es.length - (intOf i).toNat)
      case atStart => exact ⟨0, Nat.zero_le _, rfl, rfl, HB.out⟩
      case round =>
        obtain ⟨j, hj, rfl, rfl, hb⟩ := hrel
        have HBj : Hid (Below w.heap.size w wr) := hb
        have c2 := (HBj.out.cell (p := ⟨b, off + p * 2 + 1, none⟩) hbl0).trans c20
        have hbl : b < wr.heap.size := Nat.lt_of_lt_of_le hbl0 HBj.out.size
        clear hb
        by_cases hjl : j < st.es.length
        · obtain ⟨eb, eoff, ecap', e, hv, _, _, hebl, he, e1, e2⟩ := (HE.out.below HBj.out).at hjl
          cases hv
          have HX : Hid (st.es[j]? = some e) := he
          obtain ⟨l, t⟩ := e
          simp only at e1 e2
          clear he
          by_cases hlc : l = ((s[k].toNat : Nat) : Int)
          · have HL : Hid (lastT (st.es.take (j + 1)) ((s[k].toNat : Nat) : Int) = t) := by show lastT _ _ = t; rw [lastT_take HX.out, if_pos hlc]
            subst hlc
            go_wp2_with fail
            go_quiet (fail)
            go_wp2
            go_roundw
            case rel => exact ⟨j + 1, by omega, by go_num, by rw [HL.out], below_drewN' HBj.out _⟩
            case measure => simp [intOf]; omega
          · have HL : Hid (lastT (st.es.take (j + 1)) ((s[k].toNat : Nat) : Int) = lastT (st.es.take j) ((s[k].toNat : Nat) : Int)) := by show lastT _ _ = _; rw [lastT_take HX.out, if_neg hlc]
            go_wp2_with fail
            go_quiet (fail)
            go_wp2
            go_roundw
            case rel => exact ⟨j + 1, by omega, by go_num, by rw [HL.out], below_drewN' HBj.out _⟩
            case measure => simp [intOf]; omega
        · have hke : st.es.take j = st.es := List.take_of_length_le (by omega)
          rw [hke]
          clear hke
          rcases HG.out with hneg | ⟨q, hq, hql⟩
          · have HF : Hid (runT ss s.data.toList 0 = -1) := runT_stop ss s (k + 1) (by rw [HR.out, hneg])
            rw [hneg]
            clear hneg
            go_wp2
            go_ret
            rw [HF.out]
            exact ⟨rfl, HBj.out⟩
          · have HQ : Hid (runT ss (s.data.toList.take (k + 1)) 0 = q) := by show runT ss (s.data.toList.take (k + 1)) 0 = q; rw [HR.out, hq]
            rw [hq]
            clear hq
            have hq0 : ¬ (q : Int) < 0 := by omega
            go_wp2
            go_roundw
            case rel => exact ⟨k + 1, q, by omega, by go_num, rfl, hql, HQ.out, HBj.out⟩
            case measure => simp [intOf]; omega
    · have HF : Hid (runT ss s.data.toList 0 = p) := by show runT ss s.data.toList 0 = p; rw [← runT_all ss s k (by omega)]; exact HP.out
      go_wp2
      go_ret
      rw [HF.out]
      exact ⟨rfl, HB.out⟩
end Go.Proofs.Ytpjkgpglbbppjaa
