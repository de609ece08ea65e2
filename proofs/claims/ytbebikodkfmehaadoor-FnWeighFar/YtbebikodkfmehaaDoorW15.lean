/-
  Drawn pairs of words; the laws FnFar, FnBeginning and FnWithin.
-/
import Derived.Test.YtbebikodkfmehaaDoorGM6
import Derived.Test.YtbebikodkfmehaaDoorGW4
import Derived.Test.YtbebikodkfmehaaDoorW10
import Derived.Test.YtbebikodkfmehaaDoorGW9
import Derived.Test.YtbebikodkfmehaaDoorW14
namespace Go.Proofs.YtbebikodkfmehaaDoor
open Go.RowKit
set_option linter.unusedVariables false
theorem TextRow.kept {w w' : World} {v : Value} {ss : List ByteArray} {blk p : Nat} (h : TextRow w v ss) (hr : RdAt w blk p) (hk : Kept blk w w') : TextRow w' v ss := by
  obtain ⟨g, cap, hv, hc, hcell, cur, hcur⟩ := h
  obtain ⟨a, len, cp, h1, _⟩ := hr
  have hne : g ≠ blk := by
    rintro rfl
    rw [h1] at hcur
    simp at hcur
  have hlt := lt_of_block hcur
  exact ⟨g, cap, hv, hc, fun i s hs => (hk.cell (p := ⟨g, i, none⟩) hlt hne).trans (hcell i s hs), cur, (hk.block g hlt hne).trans hcur⟩
/-- One of the texts, by a number. -/
theorem TextRow.look {w : World} {v : Value} {ss : List ByteArray} (h : TextRow w v ss) (hne : ss ≠ []) (x : Int) (hx : 0 ≤ x) :
    ∃ g cap i : Nat, ∃ s, v = .slice (some ⟨g, 0, none⟩) ss.length cap ∧ x.tmod (ss.length : Int) = (i : Int) ∧ x % (ss.length : Int) = (i : Int) ∧ i < ss.length ∧ w.cell? ⟨g, i, none⟩ = some (.string s) ∧ s ∈ ss := by
  obtain ⟨g, cap, hv, hc, hcell, _⟩ := h
  obtain ⟨n, rfl⟩ := Int.eq_ofNat_of_zero_le hx
  have hl : 0 < ss.length := by cases ss with | nil => exact absurd rfl hne | cons => simp
  have hi : n % ss.length < ss.length := Nat.mod_lt _ hl
  exact ⟨g, cap, n % ss.length, ss[n % ss.length], hv, rfl, rfl, hi, hcell _ _ (List.getElem?_eq_getElem hi), List.getElem_mem hi⟩
set_option maxHeartbeats 2000000 in
theorem l13Other_any (w : World) (blk p : Nat) (s : ByteArray) (h : RdAt w blk p) (hp : p ≤ 700000) (hs : s.size ≤ 20) :
    Calls Tryd.prog 29 #[.pointer (some ⟨blk, 0, none⟩), .string s] w fun e w' => ∃ t, e = .returned (.string t) ∧ t.size ≤ 20 ∧ (∃ q, RdAt w' blk q ∧ q ≤ p + 20) ∧ Kept blk w w' := by
  have HR : Hid (RdAt w blk p) := h
  have hm : s.size ≤ maxLen := by unfold maxLen; omega
  have HM : Hid (s.size ≤ maxLen) := hm
  clear h hm
  cases hw : wok s with
  | false =>
    go_enter Tryd.func29, Tryd.ntmps29
    go_wp2_with (first | (go_at_call 16; refine (l1Word_any _ _ HM.out).mono ?_; rintro e w' ⟨rfl, rfl⟩) | (go_at_call 28; refine (l13AnyWord_any _ blk p HR.out (by omega)).mono ?_; rintro e w1 ⟨t, rfl, ht, ⟨q, hq, hq2⟩, hk⟩))
    go_ret
    exact ⟨t, rfl, ht, ⟨q, hq, by omega⟩, hk⟩
  | true =>
    have HW : Hid (wok s = true) := hw
    go_enter Tryd.func29, Tryd.ntmps29
    go_wp2_with fail
    refine (l1Word_any _ _ HM.out).mono ?_
    rintro e w' ⟨rfl, rfl⟩
    rw [hw]
    clear hw
    go_wp2_with fail
    refine (pick_any _ blk p 2 HR.out (by omega) (by omega)).mono ?_
    rintro e w1 ⟨v1, rfl, hv1, _, hr1, hk1⟩
    have HR1 : Hid (RdAt w1 blk (p + 1)) := hr1
    clear hr1
    cases hz : (v1 == 0) with
    | false =>
      go_wp2_with (first | (go_at_call 28; refine (l13AnyWord_any _ blk (p + 1) HR1.out (by omega)).mono ?_; rintro e w2 ⟨t, rfl, ht, ⟨q, hq, hq2⟩, hk⟩))
      go_ret
      exact ⟨t, rfl, ht, ⟨q, hq, by omega⟩, hk1.trans hk⟩
    | true =>
      go_wp2_with fail
      refine (l1Near_any s _ (by have := wok_size HW.out; omega)).mono ?_
      rintro e w2 ⟨u2, rfl, ht2, hb2⟩
      have HT2 : Hid (TextRow w2 u2 (near s)) := ht2
      have HR2 : Hid (RdAt w2 blk (p + 1)) := HR1.out.keep hb2
      have hk2 : Kept blk w' w2 := hk1.trans (Kept.of_below hb2)
      clear ht2 hb2
      go_wp2_with fail
      refine (pick_any _ blk (p + 1) 256 HR2.out (by omega) (by omega)).mono ?_
      rintro e w3 ⟨a3, rfl, ha3, hb3, hr3, hk3⟩
      have HT3 : Hid (TextRow w3 u2 (near s)) := HT2.out.kept HR2.out hk3
      have HR3 : Hid (RdAt w3 blk (p + 1 + 1)) := hr3
      have hb3' : a3 < 256 := hb3 (by omega)
      have hk4 : Kept blk w' w3 := hk2.trans hk3
      clear hr3 hb3 hk3
      go_wp2_with fail
      refine (pick_any _ blk (p + 1 + 1) 256 HR3.out (by omega) (by omega)).mono ?_
      rintro e w4 ⟨a4, rfl, ha4, hb4, hr4, hk5⟩
      have HT4 : Hid (TextRow w4 u2 (near s)) := HT3.out.kept HR3.out hk5
      have HR4 : Hid (RdAt w4 blk (p + 1 + 1 + 1)) := hr4
      have hb4' : a4 < 256 := hb4 (by omega)
      have hk6 : Kept blk w' w4 := hk4.trans hk5
      clear hr4 hb4 hk5
      obtain ⟨g, cap, ix, t, rfl, e1, e2, e3, e4, e5⟩ := HT4.out.look (near_ne s HW.out) (a3 * 256 + a4) (by omega)
      have hl0 : ¬ ((near s).length : Int) = 0 := by omega
      have hl1 : (((near s).length : Int) == 0) = false := by rw [beq_eq_false_iff_ne]; omega
      have hlen : (near s).length ≤ 1000 := by
        have h1 := nearTo_length s (s.size + 1)
        have h2 := wok_size HW.out
        unfold near
        omega
      have e6 : (ix : Int) < ((near s).length : Int) := by omega
      have HE : Hid (t ∈ near s) := e5
      clear e5
      go_wp2_with fail
      refine (pick_any _ blk (p + 1 + 1 + 1) 3 HR4.out (by omega) (by omega)).mono ?_
      rintro e w5 ⟨a5, rfl, ha5, _, hr5, hk7⟩
      have HR5 : Hid (RdAt w5 blk (p + 1 + 1 + 1 + 1)) := hr5
      have hk8 : Kept blk w' w5 := hk6.trans hk7
      have HWT : Hid (wok t = true) := near_wok s t HE.out
      clear hr5 hk7 e1 e2 e3 e4 e6 hl0 hl1 hlen
      cases hz5 : (a5 == 0) with
      | false =>
        go_wp2
        go_ret
        exact ⟨t, rfl, by have := wok_size HWT.out; omega, ⟨_, HR5.out, by omega⟩, hk8⟩
      | true =>
        go_wp2_with fail
        refine (l1Near_any t _ (by have := wok_size HWT.out; omega)).mono ?_
        rintro e w6 ⟨u6, rfl, ht6, hb6⟩
        have HT6 : Hid (TextRow w6 u6 (near t)) := ht6
        have HR6 : Hid (RdAt w6 blk (p + 1 + 1 + 1 + 1)) := HR5.out.keep hb6
        have hk9 : Kept blk w' w6 := hk8.trans (Kept.of_below hb6)
        clear ht6 hb6
        go_wp2_with fail
        refine (pick_any _ blk (p + 1 + 1 + 1 + 1) 256 HR6.out (by omega) (by omega)).mono ?_
        rintro e w7 ⟨a7, rfl, ha7, hb7, hr7, hk10⟩
        have HT7 : Hid (TextRow w7 u6 (near t)) := HT6.out.kept HR6.out hk10
        have HR7 : Hid (RdAt w7 blk (p + 1 + 1 + 1 + 1 + 1)) := hr7
        have hb7' : a7 < 256 := hb7 (by omega)
        have hk11 : Kept blk w' w7 := hk9.trans hk10
        clear hr7 hb7 hk10
        go_wp2_with fail
        refine (pick_any _ blk (p + 1 + 1 + 1 + 1 + 1) 256 HR7.out (by omega) (by omega)).mono ?_
        rintro e w8 ⟨a8, rfl, ha8, hb8, hr8, hk12⟩
        have HT8 : Hid (TextRow w8 u6 (near t)) := HT7.out.kept HR7.out hk12
        have HR8 : Hid (RdAt w8 blk (p + 1 + 1 + 1 + 1 + 1 + 1)) := hr8
        have hb8' : a8 < 256 := hb8 (by omega)
        have hk13 : Kept blk w' w8 := hk11.trans hk12
        clear hr8 hb8 hk12
        obtain ⟨g, cap, ix, t', rfl, e1, e2, e3, e4, e5⟩ := HT8.out.look (near_ne t HWT.out) (a7 * 256 + a8) (by omega)
        have hl0 : ¬ ((near t).length : Int) = 0 := by omega
        have hl1 : (((near t).length : Int) == 0) = false := by rw [beq_eq_false_iff_ne]; omega
        have hlen : (near t).length ≤ 1000 := by
          have h1 := nearTo_length t (t.size + 1)
          have h2 := wok_size HWT.out
          unfold near
          omega
        have e6 : (ix : Int) < ((near t).length : Int) := by omega
        have HE' : Hid (t' ∈ near t) := e5
        have HW' : Hid (wok t' = true) := near_wok t t' HE'.out
        clear e5
        go_wp2
        go_ret
        exact ⟨t', rfl, by have := wok_size HW'.out; omega, ⟨_, HR8.out, by omega⟩, hk13⟩
set_option maxHeartbeats 1000000 in
theorem drawFar_any (w : World) (a : Option Addr) (len cap : Nat) (zs : List Int) (h : IsRow .u8 w a len cap zs) :
    Calls Tryd.prog 18 #[.slice a len cap] w fun e w' => ∃ s t, e = .returned (.tuple #[.string s, .string t]) ∧ s.size ≤ 20 ∧ t.size ≤ 20 ∧ Below w.heap.size w w' := by
  have HI : Hid (IsRow .u8 w a len cap zs) := h
  clear h
  go_enter Tryd.func18, Tryd.ntmps18
  go_wp2_with fail
  refine (open_any w a len cap zs HI.out).mono ?_
  rintro e w1 ⟨rfl, hr1, hb1⟩
  have HR1 : Hid (RdAt w1 w.heap.size 0) := hr1
  clear hr1
  go_wp2_with fail
  refine (l13AnyWord_any _ _ 0 HR1.out (by omega)).mono ?_
  rintro e w2 ⟨s, rfl, hs, ⟨q, hr2, hq⟩, hk2⟩
  unfold Drawn at hs
  have HR2 : Hid (RdAt w2 w.heap.size q) := hr2
  clear hr2
  go_wp2_with fail
  refine (l13Other_any _ _ q s HR2.out (by omega) hs).mono ?_
  rintro e w3 ⟨t, rfl, ht, ⟨q3, hr3, hq3⟩, hk3⟩
  have hb3 := (hk2.trans hk3).below hb1 (Nat.le_refl _)
  clear hr3 hk2 hk3
  go_wp2_with fail
  go_ret2
  exact ⟨s, t, rfl, hs, ht, hb3⟩
theorem farW_comm (a b : ByteArray) : farW a b = farW b a := by
  unfold farW
  by_cases h : wok a = true ∧ wok b = true
  · rw [if_pos h, if_pos h.symm]
    exact D_comm _ _ _ _ _ (Nat.le_refl _)
  · rw [if_neg h, if_neg fun x => h x.symm]
theorem cpl_extract (a b : ByteArray) : a.extract 0 (cpl a.data.toList b.data.toList) = b.extract 0 (cpl b.data.toList a.data.toList) := by
  apply data_inj
  rw [data_extract, data_extract, cpl_comm b.data.toList]
  simp only [List.drop_zero]
  exact cpl_take a.data.toList b.data.toList
end Go.Proofs.YtbebikodkfmehaaDoor
