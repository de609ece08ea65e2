/-
  impl.MachineRank.
-/
import Derived.Test.YtlpcmikljhoabaaW57
namespace Go.Proofs.Ytlpcmikljhoabaa
open Go.RowKit
set_option linter.unusedVariables false
/-- The rank of a text. -/
def rnkT (ss : List Sta) (s : ByteArray) : Int := if mknT ss s && decide (cTab ss 0 < 1000000000) then rkT ss (cTab ss) s s.size else -1
set_option maxRecDepth 100000 in
set_option maxHeartbeats 4000000 in
theorem implMachineRank_any (w : World) (v : Value) (ss : List Sta) (s : ByteArray) (h : StatesAt w v ss) (hs : s.size ≤ 1048576) :
    Calls Try.prog 16 #[v, .string s] w fun e w' => e = .returned (.int .i64 (rnkT ss s)) ∧ Below w.heap.size w w' := by
  obtain ⟨sa, cap, rfl, hc, hm⟩ := h.form
  have HS : Hid (StatesAt w (.slice sa ss.length cap) ss) := h
  have hsm : s.size ≤ maxLen := by unfold maxLen; omega
  have HSM : Hid (s.size ≤ maxLen) := hsm
  clear h hsm
  unfold maxLen at hm
  cases hkn : mknT ss s with
  | false =>
    have HC : Hid (rnkT ss s = -1) := by show rnkT ss s = -1; simp [rnkT, hkn]
    go_enter Try.func16, Try.ntmps16
    go_wp2_with fail
    refine (implMachineKnows_any _ _ ss s HS.out HSM.out).mono ?_
    rintro e w1 ⟨rfl, hb1⟩
    have HB1 : Hid (Below w.heap.size w w1) := hb1
    clear hb1
    go_wp2
    go_ret
    rw [HC.out]
    exact ⟨rfl, HB1.out⟩
  | true =>
    have hmk : machT ss = true ∧ knT ss s = true := by simpa [mknT] using hkn
    obtain ⟨hmt, hk⟩ := hmk
    obtain ⟨hok, h1, h4⟩ := machT_parts hmt
    have HO : Hid (stasOk ss = true) := hok
    have HK : Hid (knT ss s = true) := hk
    have HDb : Hid (∀ j, 0 ≤ cTab ss j ∧ cTab ss j ≤ 1000000000) := cTab_bound ss
    have HKN : Hid (mknT ss s = true) := hkn
    clear hok hk hmt
    go_enter Try.func16, Try.ntmps16
    go_wp2_with fail
    refine (implMachineKnows_any _ _ ss s HS.out HSM.out).mono ?_
    rintro e w1 ⟨rfl, hb1⟩
    have HB1 : Hid (Below w.heap.size w w1) := hb1
    clear hb1
    go_wp2_with fail
    refine (counts_any _ _ ss (HS.out.below HB1.out) HO.out h1 h4).mono ?_
    rintro e w2 ⟨rfl, hr2, hb2⟩
    have HB2 : Hid (Below w.heap.size w w2) := HB1.out.trans (hb2.mono HB1.out.size)
    have HW2 : Hid (w2.rowIs w1.heap.size 3 ss.length (tabRow (cTab ss))) := hr2
    have d0 : w2.cell? ⟨w1.heap.size, 0, none⟩ = some (.int .i64 (cTab ss 0)) := hr2.cell (i := 0) (by omega)
    clear hb2 hr2
    by_cases hbig : cTab ss 0 = 1000000000
    · have HC : Hid (rnkT ss s = -1) := by show rnkT ss s = -1; simp [rnkT, hbig]
      go_wp2
      go_ret
      rw [HC.out]
      exact ⟨rfl, HB2.out⟩
    · have HC : Hid (rnkT ss s = rkT ss (cTab ss) s s.size) := by
        show rnkT ss s = _
        have := HDb.out 0
        have hlt : cTab ss 0 < 1000000000 := by omega
        simp [rnkT, hkn, hlt]
      clear hkn
      go_wp2_with (go_at_call 29; refine (walk_any _ _ _ _).mono ?_; rintro e w' ⟨rfl, rfl⟩)
      clear d0
      go_loopw [6, 7, 24] (fun r x i wr => ∃ (k p : Nat), k ≤ s.size ∧ i = .int .i64 k ∧ x = .int .i64 p ∧ r = .int .i64 (rkT ss (cTab ss) s k) ∧ p < ss.length ∧ runT ss (s.data.toList.take k) 0 = p ∧ wr.cell? ⟨w2.heap.size, 0, none⟩ = some (.slice sa ss.length cap) ∧ wr.cell? ⟨w2.heap.size + 1, 0, none⟩ = some (.int .i64 p) ∧ wr.frozen? ⟨w2.heap.size + 1, 0, none⟩ = false ∧ w2.heap.size + 1 < wr.heap.size ∧ Below w2.heap.size w2 wr) (fun _ _ i _ => s.size - (intOf i).toNat)
      case atStart => exact ⟨0, 0, Nat.zero_le _, rfl, rfl, rfl, h1, rfl, by simp [go_sem], by simp [go_sem], by simp [go_sem], by simp, ((Below.refl _ _).alloc (Nat.le_refl _) _).alloc (by simp) _⟩
      case round =>
        obtain ⟨k, p, hk, rfl, rfl, rfl, hpl, hp, m1, m2, m3, m4, hb⟩ := hrel
        have HBr : Hid (Below w2.heap.size w2 wr) := hb
        have HP : Hid (runT ss (s.data.toList.take k) 0 = p) := hp
        have HSr : Hid (StatesAt wr (.slice sa ss.length cap) ss) := HS.out.below (HB2.out.trans (hb.mono HB2.out.size))
        have HWr : Hid (wr.rowIs w1.heap.size 3 ss.length (tabRow (cTab ss))) := rowIs_below HW2.out hb
        clear hb hp
        by_cases hlt : k < s.size
        · have hb8 : s[k].toNat ≤ 255 := by have := s[k].toNat_lt; omega
          obtain ⟨b, off, cap', st, ev, hv, _, _, hbl, hst, c1, c2, hev⟩ := HSr.out.at hpl
          cases hv
          obtain ⟨q, hq, hql⟩ := kn_place HO.out h1 HK.out (k + 1)
          have HQ : Hid (runT ss (s.data.toList.take (k + 1)) 0 = q) := hq
          have HGQ : Hid (goT ss (p : Int) ((s[k].toNat : Nat) : Int) = q) := by
            show goT ss (p : Int) ((s[k].toNat : Nat) : Int) = q
            rw [← hq, runT_take ss s k hlt, HP.out]
          have HE : Hid (EdgesIn 0 wr ev st.es) := hev
          have HD : Hid (edsOk ((p : Int) + 1) ss.length st.es = true) := staOk_es (stasOk_at HO.out hst)
          have HR : Hid (rkT ss (cTab ss) s (k + 1) = rkT ss (cTab ss) s k + sumT (cTab ss) st.es ((s[k].toNat : Nat) : Int) (cntZ st.ends)) := by
            show rkT ss (cTab ss) s k + aheadT ss (cTab ss) (runT ss (s.data.toList.take k) 0) (byT s k) = _
            rw [HP.out, aheadT_at hst, byT_at s k hlt]
          have hbk := rkT_bound HO.out h1 HDb.out HK.out k
          have hba := aheadT_bound HO.out HDb.out hst ((s[k].toNat : Nat) : Int)
          rw [aheadT_at hst] at hba
          have hkb : (k : Int) * 26000000001 ≤ 1048576 * 26000000001 := by omega
          generalize hrk : rkT ss (cTab ss) s k = rk at *
          generalize hah : sumT (cTab ss) st.es ((s[k].toNat : Nat) : Int) (cntZ st.ends) = ah at *
          have hsum : rk + ah ≤ 30000000000000000 := by omega
          have HAH : Hid (sumT (cTab ss) st.es ((s[k].toNat : Nat) : Int) (cntZ st.ends) = ah) := hah
          clear hq hst hev hrk hah hkb
          go_wp2_with fail
          go_region_with (go_at_call 30; refine (ahead_any _ _ _ st.es _ _ _ _ _ (HE.out.below (Below.refl _ _).drew) HD.out (by omega) h4 hb8 HWr.out.drew HDb.out).mono ?_; rintro e w' ⟨rfl, hb'⟩; rw [HAH.out]; have HB3 : Hid (Below wr.heap.size wr w') := ((Below.refl _ _).drew).trans hb'; clear hb')
          all_goals
            have n1 := (HB3.out.cell (p := ⟨w2.heap.size, 0, none⟩) (by show w2.heap.size < wr.heap.size; omega)).trans m1
            have n2 := (HB3.out.cell (p := ⟨w2.heap.size + 1, 0, none⟩) m4).trans m2
            have n3 := (HB3.out.frozen (p := ⟨w2.heap.size + 1, 0, none⟩) m4).trans m3
            have n4 : w2.heap.size + 1 < w'.heap.size := Nat.lt_of_lt_of_le m4 HB3.out.size
            clear m1 m2 m3 c1 c2
            go_wp2_with fail
            refine (walk1_any _ _ _ _ ss _ _ (HSr.out.below HB3.out) HO.out n1 n2 n3 (.inr ⟨p, rfl, hpl⟩) n4 hb8).mono ?_
            rintro e w4 ⟨rfl, o2, o3, hb4⟩
            rw [HGQ.out] at o2 ⊢
            have o1 := (hb4.cell (p := ⟨w2.heap.size, 0, none⟩) (by simp)).trans n1
            have o4 : w2.heap.size + 1 < w4.heap.size := Nat.lt_of_lt_of_le n4 hb4.size
            have HB4 : Hid (Below w2.heap.size w2 w4) := (HBr.out.trans (HB3.out.mono (by omega))).trans (hb4.mono (by omega))
            clear hb4 n1 n2 n3 n4
            go_wp2
            go_roundw
            case rel => exact ⟨k + 1, q, by omega, by go_num, rfl, by rw [HR.out], hql, HQ.out, o1, o2, o3, o4, HB4.out⟩
            case measure => simp [intOf]; omega
        · obtain rfl : k = s.size := by omega
          go_wp2
          go_ret
          rw [HC.out]
          exact ⟨rfl, HB2.out.trans (HBr.out.mono HB2.out.size)⟩
end Go.Proofs.Ytlpcmikljhoabaa
