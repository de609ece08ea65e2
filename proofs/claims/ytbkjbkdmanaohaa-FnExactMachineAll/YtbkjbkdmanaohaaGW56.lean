/-
  MachineCount: both sides, and the law FnExactMachineCount.
-/
import Derived.Test.YtbkjbkdmanaohaaW52
import Derived.Test.YtbkjbkdmanaohaaGW54
import Derived.Test.YtbkjbkdmanaohaaW44
import Derived.Test.YtbkjbkdmanaohaaW41
namespace Go.Proofs.Ytbkjbkdmanaohaa
open Go.RowKit
set_option linter.unusedVariables false
theorem machT_parts {ss : List Sta} (h : machT ss = true) : stasOk ss = true ∧ 1 ≤ ss.length ∧ ss.length ≤ 400 := by
  simp only [machT, Bool.and_eq_true, decide_eq_true_eq] at h
  exact ⟨h.1.2, h.1.1.1, h.1.1.2⟩
/-- How many texts a machine knows. -/
def cntT (ss : List Sta) : Int := if machT ss then tab cntF cntZ ss ss.length 0 else 0
end Go.Proofs.Ytbkjbkdmanaohaa
/-
  impl.knows, impl.MachineKnows.
-/
namespace Go.Proofs.Ytbkjbkdmanaohaa
open Go.RowKit
set_option linter.unusedVariables false
set_option maxHeartbeats 1000000 in
theorem walk_any (w : World) (a : Option Addr) (n cap : Nat) :
    Calls Try.prog 59 #[.slice a n cap] w fun e w' => e = .returned (.func (.func 70) #[] #[.pointer (some ⟨w.heap.size + 1, 0, none⟩), .pointer (some ⟨w.heap.size, 0, none⟩)]) ∧ w' = (w.alloc (.cells #[.slice a n cap] 25)).alloc (.cells #[.int .i64 0] 3) := by
  go_enter Try.func59, Try.ntmps59
  go_wp2
  go_ret
  exact ⟨rfl, rfl⟩
set_option maxHeartbeats 2000000 in
theorem placeBehind_any (w : World) (v : Value) (ss : List Sta) (s : ByteArray) (h : StatesAt w v ss) (hok : stasOk ss = true) (h1 : 1 ≤ ss.length) (hs : s.size ≤ maxLen) :
    Calls Try.prog 41 #[v, .string s] w fun e w' => e = .returned (.int .i64 (runT ss s.data.toList 0)) ∧ Below w.heap.size w w' := by
  obtain ⟨sa, cap, rfl, hc, hmx⟩ := h.form
  have HS : Hid (StatesAt w (.slice sa ss.length cap) ss) := h
  have HO : Hid (stasOk ss = true) := hok
  clear h hok
  unfold maxLen at hmx hs
  go_enter Try.func41, Try.ntmps41
  go_wp2_with (go_at_call 59; refine (walk_any _ _ _ _).mono ?_; rintro e w' ⟨rfl, rfl⟩)
  go_loopw [5, 7] (fun x i wr => ∃ (k : Nat), k ≤ s.size ∧ i = .int .i64 k ∧ x = .int .i64 (runT ss (s.data.toList.take k) 0) ∧ wr.cell? ⟨w.heap.size, 0, none⟩ = some (.slice sa ss.length cap) ∧ wr.cell? ⟨w.heap.size + 1, 0, none⟩ = some (.int .i64 (runT ss (s.data.toList.take k) 0)) ∧ wr.frozen? ⟨w.heap.size + 1, 0, none⟩ = false ∧ w.heap.size + 1 < wr.heap.size ∧ Below w.heap.size w wr) (fun _ i _ => s.size - (intOf i).toNat)
  case atStart => exact ⟨0, Nat.zero_le _, rfl, rfl, by simp [go_sem], by simp [go_sem, runT], by simp [go_sem], by simp, ((Below.refl _ _).alloc (Nat.le_refl _) _).alloc (by simp) _⟩
  case round =>
    obtain ⟨k, hk, rfl, rfl, m1, m2, m3, m4, hb⟩ := hrel
    have HB : Hid (Below w.heap.size w wr) := hb
    have HP : Hid (placeOk ss (runT ss (s.data.toList.take k) 0)) := runT_ok HO.out _ _ (.inr ⟨0, rfl, h1⟩)
    clear hb
    rcases HP.out with hneg | ⟨p, hp, hpl⟩
    · have HK : Hid (runT ss s.data.toList 0 = -1) := runT_stop ss s k hneg
      rw [hneg] at m2 ⊢
      clear hneg
      by_cases hlt : (k : Int) < s.size
      · go_wp2
        go_ret
        rw [HK.out]
        exact ⟨rfl, HB.out⟩
      · go_wp2
        go_ret
        rw [HK.out]
        exact ⟨rfl, HB.out⟩
    · have hp0 : (p : Int) ≥ 0 := by omega
      by_cases hlt : k < s.size
      · have HR : Hid (runT ss (s.data.toList.take (k + 1)) 0 = goT ss (p : Int) ((s[k].toNat : Nat) : Int)) := by
          show runT ss (s.data.toList.take (k + 1)) 0 = _
          rw [runT_take ss s k hlt, hp]
        rw [hp] at m2 ⊢
        clear hp
        have hb8 : s[k].toNat ≤ 255 := by have := s[k].toNat_lt; omega
        go_wp2_with fail
        refine (walk1_any _ _ _ _ ss _ _ (HS.out.below HB.out) HO.out m1 m2 m3 (.inr ⟨p, rfl, hpl⟩) m4 hb8).mono ?_
        rintro e w' ⟨rfl, n2, n3, hb'⟩
        have n1 : w'.cell? ⟨w.heap.size, 0, none⟩ = some (.slice sa ss.length cap) := (hb'.cell (p := ⟨w.heap.size, 0, none⟩) (by simp)).trans m1
        have n4 : w.heap.size + 1 < w'.heap.size := Nat.lt_of_lt_of_le m4 hb'.size
        have HB' : Hid (Below w.heap.size w w') := HB.out.trans (hb'.mono (by omega))
        clear hb' m1 m2 m3 m4
        go_wp2
        go_roundw
        case rel => exact ⟨k + 1, by omega, by go_num, by rw [HR.out], n1, by rw [HR.out]; exact n2, n3, n4, HB'.out⟩
        case measure => simp [intOf]; omega
      · have HK : Hid (runT ss s.data.toList 0 = (p : Int)) := by
          show runT ss s.data.toList 0 = _
          rw [← runT_all ss s k (by omega), hp]
        rw [hp] at m2 ⊢
        clear hp
        go_wp2
        go_ret
        rw [HK.out]
        exact ⟨rfl, HB.out⟩
set_option maxHeartbeats 2000000 in
theorem knows_any (w : World) (v : Value) (ss : List Sta) (s : ByteArray) (h : StatesAt w v ss) (hok : stasOk ss = true) (h1 : 1 ≤ ss.length) (hs : s.size ≤ maxLen) :
    Calls Try.prog 30 #[v, .string s] w fun e w' => e = .returned (.bool (knT ss s)) ∧ Below w.heap.size w w' := by
  obtain ⟨sa, cap, rfl, hc, hmx⟩ := h.form
  have HS : Hid (StatesAt w (.slice sa ss.length cap) ss) := h
  have HO : Hid (stasOk ss = true) := hok
  have HP : Hid (placeOk ss (runT ss s.data.toList 0)) := runT_ok hok _ _ (.inr ⟨0, rfl, h1⟩)
  have HD : Hid (knT ss s = endsT ss (runT ss s.data.toList 0)) := rfl
  have HC : Hid (∀ (w : World) (v : Value), StatesAt w v ss → Calls Try.prog 41 #[v, .string s] w fun e w' => e = .returned (.int .i64 (runT ss s.data.toList 0)) ∧ Below w.heap.size w w') := fun w v h => placeBehind_any w v ss s h HO.out h1 hs
  clear h hok
  unfold maxLen at hmx hs
  rcases HP.out with hneg | ⟨p, hp, hpl⟩
  · have HK : Hid (knT ss s = false) := by show _ = _; rw [HD.out, hneg]; rfl
    rw [hneg] at HC
    clear hneg HD HP
    go_enter Try.func30, Try.ntmps30
    go_wp2_with fail
    refine (HC.out _ _ HS.out).mono ?_
    rintro e w1 ⟨rfl, hb⟩
    have HB : Hid (Below w.heap.size w w1) := hb
    clear hb
    go_wp2
    go_ret
    rw [HK.out]
    exact ⟨rfl, HB.out⟩
  · rw [hp] at HC
    have HK : Hid (knT ss s = endsT ss (p : Int)) := by show _ = _; rw [HD.out, hp]
    have hp0 : (p : Int) ≥ 0 := by omega
    clear hp HD HP
    go_enter Try.func30, Try.ntmps30
    go_wp2_with fail
    refine (HC.out _ _ HS.out).mono ?_
    rintro e w1 ⟨rfl, hb⟩
    have HB : Hid (Below w.heap.size w w1) := hb
    clear hb
    obtain ⟨b', off, cap', st, ev, hv, _, _, hbl, hst, c1, _, _⟩ := (HS.out.below HB.out).at hpl
    cases hv
    have HK2 : Hid (knT ss s = st.ends) := by show _ = _; rw [HK.out]; exact endsT_at hst
    clear hst
    go_wp2
    go_ret
    rw [HK2.out]
    exact ⟨rfl, HB.out⟩
/-- A machine knows a text. -/
def mknT (ss : List Sta) (s : ByteArray) : Bool := machT ss && knT ss s
set_option maxHeartbeats 1000000 in
theorem implMachineKnows_any (w : World) (v : Value) (ss : List Sta) (s : ByteArray) (h : StatesAt w v ss) (hs : s.size ≤ maxLen) :
    Calls Try.prog 11 #[v, .string s] w fun e w' => e = .returned (.bool (mknT ss s)) ∧ Below w.heap.size w w' := by
  obtain ⟨a, cap, rfl, hc, hm⟩ := h.form
  have HS : Hid (StatesAt w (.slice a ss.length cap) ss) := h
  clear h
  cases hmt : machT ss with
  | false =>
    have HC : Hid (mknT ss s = false) := by show mknT ss s = false; simp [mknT, hmt]
    go_enter Try.func11, Try.ntmps11
    go_wp2_with fail
    refine (implMachineOk_any _ _ ss HS.out).mono ?_
    rintro e w1 ⟨rfl, hb1⟩
    have HB1 : Hid (Below w.heap.size w w1) := hb1
    clear hb1
    go_wp2
    go_ret
    rw [HC.out]
    exact ⟨rfl, HB1.out⟩
  | true =>
    have HC : Hid (mknT ss s = knT ss s) := by show mknT ss s = _; simp [mknT, hmt]
    obtain ⟨hok, h1, h4⟩ := machT_parts hmt
    have HO : Hid (stasOk ss = true) := hok
    clear hok
    go_enter Try.func11, Try.ntmps11
    go_wp2_with fail
    refine (implMachineOk_any _ _ ss HS.out).mono ?_
    rintro e w1 ⟨rfl, hb1⟩
    have HB1 : Hid (Below w.heap.size w w1) := hb1
    clear hb1
    go_wp2_with fail
    refine (knows_any _ _ ss s (HS.out.below HB1.out) HO.out h1 hs).mono ?_
    rintro e w2 ⟨rfl, hb2⟩
    have HB2 : Hid (Below w.heap.size w w2) := HB1.out.trans (hb2.mono HB1.out.size)
    clear hb2
    go_wp2
    go_ret
    rw [HC.out]
    exact ⟨rfl, HB2.out⟩
end Go.Proofs.Ytbkjbkdmanaohaa
/-
  spec.l3Go, spec.MachineKnows.
-/
namespace Go.Proofs.Ytbkjbkdmanaohaa
open Go.RowKit
set_option linter.unusedVariables false
set_option maxRecDepth 100000 in
set_option maxHeartbeats 2000000 in
theorem l3Go_any (w : World) (v : Value) (ss : List Sta) (s : ByteArray) (h : StatesAt w v ss) (hok : stasOk ss = true) (h1 : 1 ≤ ss.length) (hs : s.size ≤ maxLen) :
    Calls Try.prog 27 #[v, .string s] w fun e w' => e = .returned (.int .i64 (runT ss s.data.toList 0)) ∧ Below w.heap.size w w' := by
  obtain ⟨sa, cap, rfl, hc, hmx⟩ := h.form
  have HS : Hid (StatesAt w (.slice sa ss.length cap) ss) := h
  have HO : Hid (stasOk ss = true) := hok
  clear h hok
  unfold maxLen at hmx hs
  go_enter Try.func27, Try.ntmps27
  go_wp2
  go_loopw [5, 6] (fun x i wr => ∃ (k p : Nat), k ≤ s.size ∧ i = .int .i64 k ∧ x = .int .i64 p ∧ p < ss.length ∧ runT ss (s.data.toList.take k) 0 = p ∧ Below w.heap.size w wr) (fun _ i _ => s.size - (intOf i).toNat)
  case atStart => exact ⟨0, 0, Nat.zero_le _, rfl, rfl, h1, rfl, Below.refl _ _⟩
  case round =>
    rename World => wo
    obtain ⟨k, p, hk, rfl, rfl, hpl, hp, hb⟩ := hrel
    have HB : Hid (Below w.heap.size w wo) := hb
    have HP : Hid (runT ss (s.data.toList.take k) 0 = p) := hp
    clear hb hp
    by_cases hlt : k < s.size
    · have hb8 : s[k].toNat ≤ 255 := by have := s[k].toNat_lt; omega
      obtain ⟨b, off, cap', st, ev, hv, _, _, hbl0, hst, c10, c20, hev⟩ := HS.out.at hpl
      cases hv
      obtain ⟨ea, ecap, rfl, hec, hem⟩ := hev.form
      have HR : Hid (runT ss (s.data.toList.take (k + 1)) 0 = lastT st.es ((s[k].toNat : Nat) : Int)) := by
        show runT ss (s.data.toList.take (k + 1)) 0 = _
        rw [runT_take ss s k hlt, HP.out]
        exact goT_at hst _
      have HG : Hid (placeOk ss (lastT st.es ((s[k].toNat : Nat) : Int))) := by
        rw [← goT_at hst]
        exact goT_ok HO.out (.inr ⟨p, rfl, hpl⟩) _
      have HE : Hid (EdgesIn 0 w (.slice ea st.es.length ecap) st.es) := hev
      clear hst hev
      unfold maxLen at hem
      go_wp2
      go_loopw [7, 8] (fun x i wr => ∃ (j : Nat), j ≤ st.es.length ∧ i = .int .i64 j ∧ x = .int .i64 (lastT (st.es.take j) ((s[k].toNat : Nat) : Int)) ∧ Below w.heap.size w wr) (fun _ i _ => st.es.length - (intOf i).toNat)
      case atStart => exact ⟨0, Nat.zero_le _, rfl, rfl, HB.out⟩
      case round =>
        obtain ⟨j, hj, rfl, rfl, hb⟩ := hrel
        have HBj : Hid (Below w.heap.size w wr) := hb
        have c2 := (HBj.out.cell (p := ⟨b, off + p * 2 + 1, none⟩) hbl0).trans c20
        have hbl : b < wr.heap.size := Nat.lt_of_lt_of_le hbl0 HBj.out.size
        clear hb
        by_cases hjl : j < st.es.length
        · obtain ⟨eb, eoff, ecap', e, hv, _, _, hebl, he, e1, e2⟩ := (HE.out.below HBj.out).at hjl
          cases hv
          have HX : Hid (st.es[j]? = some e) := he
          obtain ⟨l, t⟩ := e
          simp only at e1 e2
          clear he
          by_cases hlc : l = ((s[k].toNat : Nat) : Int)
          · have HL : Hid (lastT (st.es.take (j + 1)) ((s[k].toNat : Nat) : Int) = t) := by show lastT _ _ = t; rw [lastT_take HX.out, if_pos hlc]
            subst hlc
            go_wp2_with fail
            go_quiet (fail)
            go_wp2
            go_roundw
            case rel => exact ⟨j + 1, by omega, by go_num, by rw [HL.out], below_drewN' HBj.out _⟩
            case measure => simp [intOf]; omega
          · have HL : Hid (lastT (st.es.take (j + 1)) ((s[k].toNat : Nat) : Int) = lastT (st.es.take j) ((s[k].toNat : Nat) : Int)) := by show lastT _ _ = _; rw [lastT_take HX.out, if_neg hlc]
            go_wp2_with fail
            go_quiet (fail)
            go_wp2
            go_roundw
            case rel => exact ⟨j + 1, by omega, by go_num, by rw [HL.out], below_drewN' HBj.out _⟩
            case measure => simp [intOf]; omega
        · have hke : st.es.take j = st.es := List.take_of_length_le (by omega)
          rw [hke]
          clear hke
          rcases HG.out with hneg | ⟨q, hq, hql⟩
          · have HF : Hid (runT ss s.data.toList 0 = -1) := runT_stop ss s (k + 1) (by rw [HR.out, hneg])
            rw [hneg]
            clear hneg
            go_wp2
            go_ret
            rw [HF.out]
            exact ⟨rfl, HBj.out⟩
          · have HQ : Hid (runT ss (s.data.toList.take (k + 1)) 0 = q) := by show runT ss (s.data.toList.take (k + 1)) 0 = q; rw [HR.out, hq]
            rw [hq]
            clear hq
            have hq0 : ¬ (q : Int) < 0 := by omega
            go_wp2
            go_roundw
            case rel => exact ⟨k + 1, q, by omega, by go_num, rfl, hql, HQ.out, HBj.out⟩
            case measure => simp [intOf]; omega
    · have HF : Hid (runT ss s.data.toList 0 = p) := by show runT ss s.data.toList 0 = p; rw [← runT_all ss s k (by omega)]; exact HP.out
      go_wp2
      go_ret
      rw [HF.out]
      exact ⟨rfl, HB.out⟩
set_option maxHeartbeats 1000000 in
theorem specMachineKnows_any (w : World) (v : Value) (ss : List Sta) (s : ByteArray) (h : StatesAt w v ss) (hs : s.size ≤ maxLen) :
    Calls Try.prog 9 #[v, .string s] w fun e w' => e = .returned (.bool (mknT ss s)) ∧ Below w.heap.size w w' := by
  obtain ⟨a, cap, rfl, hc, hm⟩ := h.form
  have HS : Hid (StatesAt w (.slice a ss.length cap) ss) := h
  clear h
  unfold maxLen at hm
  cases hmt : machT ss with
  | false =>
    have HC : Hid (mknT ss s = false) := by show mknT ss s = false; simp [mknT, hmt]
    go_enter Try.func9, Try.ntmps9
    go_wp2_with fail
    refine (specMachineOk_any _ _ ss HS.out).mono ?_
    rintro e w1 ⟨rfl, hb1⟩
    have HB1 : Hid (Below w.heap.size w w1) := hb1
    clear hb1
    go_wp2
    go_ret
    rw [HC.out]
    exact ⟨rfl, HB1.out⟩
  | true =>
    have HC : Hid (mknT ss s = knT ss s) := by show mknT ss s = _; simp [mknT, hmt]
    obtain ⟨hok, h1, h4⟩ := machT_parts hmt
    have HO : Hid (stasOk ss = true) := hok
    clear hok
    go_enter Try.func9, Try.ntmps9
    go_wp2_with fail
    refine (specMachineOk_any _ _ ss HS.out).mono ?_
    rintro e w1 ⟨rfl, hb1⟩
    have HB1 : Hid (Below w.heap.size w w1) := hb1
    clear hb1
    go_wp2_with fail
    refine (l3Go_any _ _ ss s (HS.out.below HB1.out) HO.out h1 hs).mono ?_
    rintro e w2 ⟨rfl, hb2⟩
    have HB2 : Hid (Below w.heap.size w w2) := HB1.out.trans (hb2.mono HB1.out.size)
    have HP : Hid (placeOk ss (runT ss s.data.toList 0)) := runT_ok HO.out _ _ (.inr ⟨0, rfl, h1⟩)
    clear hb2
    rcases HP.out with hneg | ⟨p, hp, hpl⟩
    · have HK : Hid (knT ss s = false) := by show knT ss s = false; unfold knT; rw [hneg]; rfl
      rw [hneg]
      clear hneg
      go_wp2
      go_ret
      rw [HC.out, HK.out]
      exact ⟨rfl, HB2.out⟩
    · obtain ⟨b', off, cap', st, ev, hv, _, _, hbl, hst, c1, _, _⟩ := (HS.out.below HB2.out).at hpl
      cases hv
      have HK : Hid (knT ss s = st.ends) := by show knT ss s = st.ends; unfold knT; rw [hp]; exact endsT_at hst
      have hp0 : (p : Int) ≥ 0 := by omega
      rw [hp]
      clear hp hst
      go_wp2
      go_ret
      rw [HC.out, HK.out]
      exact ⟨rfl, HB2.out⟩
set_option maxHeartbeats 1000000 in
theorem fnExactMachineKnows_walk (v : Value) (ss : List Sta) (s : ByteArray) (w : World) (h : StatesAt w v ss) (hs : s.size ≤ maxLen) :
    Calls Try.prog 3 #[v, .string s] w fun e w' => e = .returned (.bool true) ∧ Below w.heap.size w w' := by
  obtain ⟨a, cap, rfl, hc, hm⟩ := h.form
  have HS : Hid (StatesAt w (.slice a ss.length cap) ss) := h
  clear h
  have hs0 : s.size ≤ maxLen := hs
  unfold maxLen at hs
  by_cases hsz : (s.size : Int) > 1048576
  · go_enter Try.func3, Try.ntmps3
    go_wp2
    go_ret
    exact ⟨rfl, Below.refl _ _⟩
  have hsz' : ¬ (1048576 : Int) < s.size := by omega
  have hsn : s.size ≤ 1048576 := by omega
  go_enter Try.func3, Try.ntmps3
  go_wp2_with fail
  refine (szStateS_any _ _ ss _ HS.out (by omega) (by omega)).mono ?_
  rintro e w1 ⟨⟨r, rfl, hr⟩, hb1⟩
  have HB1 : Hid (Below w.heap.size w w1) := hb1
  have HR : Hid (0 ≤ r → SmallS ss) := hr
  clear hb1 hr
  by_cases hr : r < 0
  · go_wp2
    go_ret
    exact ⟨rfl, HB1.out⟩
  · have HN : Hid (SmallS ss) := HR.out (by omega)
    go_wp2_with fail
    refine (toStateS_any _ _ ss (HS.out.below HB1.out) HN.out).mono ?_
    rintro e w2 ⟨v2, rfl, h2, hb2⟩
    obtain ⟨a2, cap2, rfl, hc2, hm2⟩ := h2.form
    have HB2 : Hid (Below w.heap.size w w2) := HB1.out.trans (hb2.mono HB1.out.size)
    have H2 : Hid (StatesAt w2 (.slice a2 ss.length cap2) ss) := h2
    clear hb2 h2
    go_wp2_with fail
    refine (specMachineKnows_any _ _ ss s H2.out hs0).mono ?_
    rintro e w3 ⟨rfl, hb3⟩
    have HB3 : Hid (Below w.heap.size w w3) := HB2.out.trans (hb3.mono HB2.out.size)
    clear hb3
    go_wp2_with fail
    refine (toStateS_any _ _ ss (HS.out.below HB3.out) HN.out).mono ?_
    rintro e w4 ⟨v4, rfl, h4, hb4⟩
    obtain ⟨a4, cap4, rfl, hc4, hm4⟩ := h4.form
    have HB4 : Hid (Below w.heap.size w w4) := HB3.out.trans (hb4.mono HB3.out.size)
    have H4 : Hid (StatesAt w4 (.slice a4 ss.length cap4) ss) := h4
    clear hb4 h4
    go_wp2_with fail
    refine (implMachineKnows_any _ _ ss s H4.out hs0).mono ?_
    rintro e w5 ⟨rfl, hb5⟩
    have HB5 : Hid (Below w.heap.size w w5) := HB4.out.trans (hb5.mono HB4.out.size)
    have H5 : Hid (StatesAt w5 (.slice a4 ss.length cap4) ss) := H4.out.below hb5
    clear hb5
    go_wp2_with fail
    refine (toStateS_any _ _ ss (HS.out.below HB5.out) HN.out).mono ?_
    rintro e w6 ⟨v6, rfl, h6, hb6⟩
    obtain ⟨a6, cap6, rfl, hc6, hm6⟩ := h6.form
    have HB6 : Hid (Below w.heap.size w w6) := HB5.out.trans (hb6.mono HB5.out.size)
    have H6 : Hid (StatesAt w6 (.slice a6 ss.length cap6) ss) := h6
    have H6' : Hid (StatesAt w6 (.slice a4 ss.length cap4) ss) := H5.out.below hb6
    clear hb6 h6
    go_wp2_with fail
    refine (eqStateS_same _ _ _ ss H6'.out H6.out).mono ?_
    rintro e w7 ⟨rfl, hb7⟩
    have HB7 : Hid (Below w.heap.size w w7) := HB6.out.trans (hb7.mono HB6.out.size)
    clear hb7
    go_wp2_with fail
    go_ret
    exact ⟨rfl, HB7.out⟩
end Go.Proofs.Ytbkjbkdmanaohaa
