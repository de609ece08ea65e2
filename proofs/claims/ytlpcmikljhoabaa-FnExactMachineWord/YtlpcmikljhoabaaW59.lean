/-
  spec.l3Small, spec.MachineRank.
-/
import Derived.Test.YtlpcmikljhoabaaW58
import Derived.Test.YtlpcmikljhoabaaW56
namespace Go.Proofs.Ytlpcmikljhoabaa
open Go.RowKit
set_option linter.unusedVariables false
/-- A machine is ok, and knows not too much. -/
def smlT (ss : List Sta) : Bool := machT ss && decide (cTab ss 0 < 1000000000)
set_option maxHeartbeats 1000000 in
theorem l3Small_any (w : World) (v : Value) (ss : List Sta) (h : StatesAt w v ss) :
    Calls Try.prog 28 #[v] w fun e w' => e = .returned (.bool (smlT ss)) ∧ Below w.heap.size w w' := by
  obtain ⟨a, cap, rfl, hc, hm⟩ := h.form
  have HS : Hid (StatesAt w (.slice a ss.length cap) ss) := h
  clear h
  cases hmt : machT ss with
  | false =>
    have HC : Hid (smlT ss = false) := by show smlT ss = false; simp [smlT, hmt]
    go_enter Try.func28, Try.ntmps28
    go_wp2_with fail
    refine (specMachineOk_any _ _ ss HS.out).mono ?_
    rintro e w1 ⟨rfl, hb1⟩
    have HB1 : Hid (Below w.heap.size w w1) := hb1
    clear hb1
    go_wp2
    go_ret
    rw [HC.out]
    exact ⟨rfl, HB1.out⟩
  | true =>
    have HC : Hid (smlT ss = decide (cTab ss 0 < 1000000000)) := by show smlT ss = _; simp [smlT, hmt]
    obtain ⟨hok, h1, h4⟩ := machT_parts hmt
    have HO : Hid (stasOk ss = true) := hok
    clear hok
    go_enter Try.func28, Try.ntmps28
    go_wp2_with fail
    refine (specMachineOk_any _ _ ss HS.out).mono ?_
    rintro e w1 ⟨rfl, hb1⟩
    have HB1 : Hid (Below w.heap.size w w1) := hb1
    clear hb1
    go_wp2_with fail
    refine (l3Counts_any _ _ ss (HS.out.below HB1.out) HO.out h1 h4).mono ?_
    rintro e w2 ⟨rfl, hr2, hb2⟩
    have HB2 : Hid (Below w.heap.size w w2) := HB1.out.trans (hb2.mono HB1.out.size)
    have d0 : w2.cell? ⟨w1.heap.size, 0, none⟩ = some (.int .i64 (cTab ss 0)) := hr2.cell (i := 0) (by omega)
    clear hb2 hr2
    go_wp2
    go_ret
    rw [HC.out]
    exact ⟨rfl, HB2.out⟩
set_option maxRecDepth 100000 in
set_option maxHeartbeats 4000000 in
theorem specMachineRank_any (w : World) (v : Value) (ss : List Sta) (s : ByteArray) (h : StatesAt w v ss) (hs : s.size ≤ 1048576) :
    Calls Try.prog 15 #[v, .string s] w fun e w' => e = .returned (.int .i64 (rnkT ss s)) ∧ Below w.heap.size w w' := by
  obtain ⟨sa, cap, rfl, hc, hm⟩ := h.form
  have HS : Hid (StatesAt w (.slice sa ss.length cap) ss) := h
  have hsm : s.size ≤ maxLen := by unfold maxLen; omega
  have HSM : Hid (s.size ≤ maxLen) := hsm
  clear h hsm
  unfold maxLen at hm
  cases hsl : smlT ss with
  | false =>
    have HC : Hid (rnkT ss s = -1) := by
      show rnkT ss s = -1
      unfold rnkT
      rw [if_neg]
      intro h
      simp only [mknT, Bool.and_eq_true] at h
      simp [smlT, h.1.1] at hsl
      simp at h
      omega
    go_enter Try.func15, Try.ntmps15
    go_wp2_with fail
    refine (l3Small_any _ _ ss HS.out).mono ?_
    rintro e w1 ⟨rfl, hb1⟩
    have HB1 : Hid (Below w.heap.size w w1) := hb1
    clear hb1
    go_wp2
    go_ret
    rw [HC.out]
    exact ⟨rfl, HB1.out⟩
  | true =>
    have hms : machT ss = true ∧ cTab ss 0 < 1000000000 := by simpa [smlT] using hsl
    obtain ⟨hmt, hlt0⟩ := hms
    obtain ⟨hok, h1, h4⟩ := machT_parts hmt
    have HO : Hid (stasOk ss = true) := hok
    have HDb : Hid (∀ j, 0 ≤ cTab ss j ∧ cTab ss j ≤ 1000000000) := cTab_bound ss
    clear hok hmt
    go_enter Try.func15, Try.ntmps15
    go_wp2_with fail
    refine (l3Small_any _ _ ss HS.out).mono ?_
    rintro e w1 ⟨rfl, hb1⟩
    have HB1 : Hid (Below w.heap.size w w1) := hb1
    clear hb1
    go_wp2_with fail
    refine (specMachineKnows_any _ _ ss s (HS.out.below HB1.out) HSM.out).mono ?_
    rintro e w2 ⟨rfl, hb2⟩
    have HB2 : Hid (Below w.heap.size w w2) := HB1.out.trans (hb2.mono HB1.out.size)
    clear hb2
    cases hkn : mknT ss s with
    | false =>
      have HC : Hid (rnkT ss s = -1) := by show rnkT ss s = -1; simp [rnkT, hkn]
      go_wp2
      go_ret
      rw [HC.out]
      exact ⟨rfl, HB2.out⟩
    | true =>
      have HC : Hid (rnkT ss s = rkT ss (cTab ss) s s.size) := by
        show rnkT ss s = _
        simp [rnkT, hkn, hlt0]
      have hmk : machT ss = true ∧ knT ss s = true := by simpa [mknT] using hkn
      have HK : Hid (knT ss s = true) := hmk.2
      clear hmk hlt0
      go_wp2_with fail
      refine (l3Counts_any _ _ ss (HS.out.below HB2.out) HO.out h1 h4).mono ?_
      rintro e w3 ⟨rfl, hr3, hb3⟩
      have HB3 : Hid (Below w.heap.size w w3) := HB2.out.trans (hb3.mono HB2.out.size)
      have HW3 : Hid (w3.rowIs w2.heap.size 3 ss.length (tabRow (cTab ss))) := hr3
      clear hb3 hr3 hkn
      go_wp2
      go_loopw [6, 7, 8] (fun x r i wr => ∃ (k p : Nat), k ≤ s.size ∧ i = .int .i64 k ∧ x = .int .i64 p ∧ r = .int .i64 (rkT ss (cTab ss) s k) ∧ p < ss.length ∧ runT ss (s.data.toList.take k) 0 = p ∧ Below w3.heap.size w3 wr) (fun _ _ i _ => s.size - (intOf i).toNat)
      case atStart => exact ⟨0, 0, Nat.zero_le _, rfl, rfl, rfl, h1, rfl, Below.refl _ _⟩
      case round =>
        rename World => wo
        obtain ⟨k, p, hk, rfl, rfl, rfl, hpl, hp, hb⟩ := hrel
        have HB : Hid (Below w3.heap.size w3 wo) := hb
        have HP : Hid (runT ss (s.data.toList.take k) 0 = p) := hp
        clear hb hp
        by_cases hlt : k < s.size
        · have hb8 : s[k].toNat ≤ 255 := by have := s[k].toNat_lt; omega
          obtain ⟨b, off, cap', st, ev, hv, _, _, hbl0, hst, c10, c20, hev⟩ := (HS.out.below HB3.out).at hpl
          cases hv
          obtain ⟨ea, ecap, rfl, hec, hem⟩ := hev.form
          obtain ⟨q, hq, hql⟩ := kn_place HO.out h1 HK.out (k + 1)
          have HQ : Hid (runT ss (s.data.toList.take (k + 1)) 0 = q) := hq
          have HGQ : Hid (lastT st.es ((s[k].toNat : Nat) : Int) = q) := by
            show lastT st.es ((s[k].toNat : Nat) : Int) = q
            rw [← goT_at hst, ← hq, runT_take ss s k hlt, HP.out]
          have HE : Hid (EdgesIn 0 w3 (.slice ea st.es.length ecap) st.es) := hev
          have HD : Hid (edsOk ((p : Int) + 1) ss.length st.es = true) := staOk_es (stasOk_at HO.out hst)
          have HR : Hid (rkT ss (cTab ss) s (k + 1) = sumT (cTab ss) st.es ((s[k].toNat : Nat) : Int) (rkT ss (cTab ss) s k + cntZ st.ends)) := by
            show rkT ss (cTab ss) s k + aheadT ss (cTab ss) (runT ss (s.data.toList.take k) 0) (byT s k) = _
            rw [HP.out, aheadT_at hst, byT_at s k hlt, sumT_add]
          have hbk := rkT_bound HO.out h1 HDb.out HK.out k
          have hkb : (k : Int) * 26000000001 ≤ 1048576 * 26000000001 := by omega
          have hl26 := eds_len HD.out
          have hz := cntZ_bound st.ends
          have c1 := (HB.out.cell (p := ⟨b, off + p * 2, none⟩) hbl0).trans c10
          have hbl : b < wo.heap.size := Nat.lt_of_lt_of_le hbl0 HB.out.size
          generalize hrk : rkT ss (cTab ss) s k = rk at *
          have hrkb : 0 ≤ rk ∧ rk ≤ 28000000000000000 := by omega
          clear hq hst hev hrk hkb hbk
          unfold maxLen at hem
          cases hen : st.ends with
          | true =>
            go_wp2
            go_loopw [7, 9, 10] (fun r x i wr => ∃ (j : Nat), j ≤ st.es.length ∧ i = .int .i64 j ∧ x = .int .i64 (lastT (st.es.take j) ((s[k].toNat : Nat) : Int)) ∧ r = .int .i64 (sumT (cTab ss) (st.es.take j) ((s[k].toNat : Nat) : Int) (rk + cntZ st.ends)) ∧ Below w3.heap.size w3 wr) (fun _ _ i _ => st.es.length - (intOf i).toNat)
            case atStart => exact ⟨0, Nat.zero_le _, rfl, rfl, by rw [hen]; rfl, HB.out⟩
            case round =>
              obtain ⟨j, hj, rfl, rfl, rfl, hb⟩ := hrel
              have HBj : Hid (Below w3.heap.size w3 wr) := hb
              have c2 := (HBj.out.cell (p := ⟨b, off + p * 2 + 1, none⟩) hbl0).trans c20
              have hbl2 : b < wr.heap.size := Nat.lt_of_lt_of_le hbl0 HBj.out.size
              clear hb c1
              by_cases hjl : j < st.es.length
              · obtain ⟨eb, eoff, ecap', e, hv, _, _, hebl, he, e1, e2⟩ := (HE.out.below HBj.out).at hjl
                cases hv
                have hb1 := edsOk_at HD.out he
                have hbd := sumT_bound HDb.out ((s[k].toNat : Nat) : Int) (st.es.take j) (rk + cntZ st.ends)
                have hlk : (st.es.take j).length ≤ 26 := by have := List.length_take_le j st.es; omega
                have HSX := sumT_take (D := cTab ss) (c := ((s[k].toNat : Nat) : Int)) (z := rk + cntZ st.ends) he
                have HLX := lastT_take (c := ((s[k].toNat : Nat) : Int)) he
                obtain ⟨l, t⟩ := e
                simp only at e1 e2 hb1 HSX HLX
                obtain ⟨t, rfl⟩ : ∃ t' : Nat, t = t' := ⟨t.toNat, by omega⟩
                have htn : t < ss.length := by omega
                have d2 : wr.cell? ⟨w2.heap.size, t, none⟩ = some (.int .i64 (cTab ss t)) := (HBj.out.cell (p := ⟨w2.heap.size, t, none⟩) HW3.out.lt).trans (HW3.out.cell (i := t) (by omega))
                have hg : w2.heap.size < wr.heap.size := Nat.lt_of_lt_of_le HW3.out.lt HBj.out.size
                have hdt := HDb.out t
                have hacc : 0 ≤ sumT (cTab ss) (st.es.take j) ((s[k].toNat : Nat) : Int) (rk + cntZ st.ends) ∧ sumT (cTab ss) (st.es.take j) ((s[k].toNat : Nat) : Int) (rk + cntZ st.ends) ≤ 29000000000000000 := by omega
                generalize hac : sumT (cTab ss) (st.es.take j) ((s[k].toNat : Nat) : Int) (rk + cntZ st.ends) = acc at *
                generalize hla : lastT (st.es.take j) ((s[k].toNat : Nat) : Int) = la at *
                have HSX' := HSX
                rw [Int.toNat_natCast] at HSX'
                have HSY : Hid (sumT (cTab ss) (st.es.take (j + 1)) ((s[k].toNat : Nat) : Int) (rk + cntZ st.ends) = if l < ((s[k].toNat : Nat) : Int) then acc + cTab ss t else acc) := HSX'
                have HLY : Hid (lastT (st.es.take (j + 1)) ((s[k].toNat : Nat) : Int) = if l = ((s[k].toNat : Nat) : Int) then (t : Int) else la) := HLX
                clear he hbd hlk hac hla HSX HLX HSX' hz
                have HBn : Hid (∀ n : Nat, Below w3.heap.size w3 ((wr.alloc (.cells #[.int .i64 l, .int .i64 t] 47)).drewN n)) := fun n => below_drewN' (HBj.out.alloc HBj.out.size _) _
                by_cases hlc : l < ((s[k].toNat : Nat) : Int)
                · have hne : ¬ l = ((s[k].toNat : Nat) : Int) := by omega
                  have HS1 : Hid (sumT (cTab ss) (st.es.take (j + 1)) ((s[k].toNat : Nat) : Int) (rk + cntZ st.ends) = acc + cTab ss t) := by rw [← if_pos (c := l < ((s[k].toNat : Nat) : Int)) (t := acc + cTab ss t) (e := acc) hlc]; exact HSY.out
                  have HL1 : Hid (lastT (st.es.take (j + 1)) ((s[k].toNat : Nat) : Int) = la) := by rw [← if_neg (c := l = ((s[k].toNat : Nat) : Int)) (t := (t : Int)) (e := la) hne]; exact HLY.out
                  go_wp2_with fail
                  go_quiet (fail)
                  go_wp2_with fail
                  go_quiet (fail)
                  go_wp2
                  go_roundw
                  case rel => exact ⟨j + 1, by omega, by go_num, by rw [HL1.out], by rw [HS1.out], HBn.out _⟩
                  case measure => simp [intOf]; omega
                · by_cases heq : l = ((s[k].toNat : Nat) : Int)
                  · have HS1 : Hid (sumT (cTab ss) (st.es.take (j + 1)) ((s[k].toNat : Nat) : Int) (rk + cntZ st.ends) = acc) := by rw [← if_neg (c := l < ((s[k].toNat : Nat) : Int)) (t := acc + cTab ss t) (e := acc) hlc]; exact HSY.out
                    have HL1 : Hid (lastT (st.es.take (j + 1)) ((s[k].toNat : Nat) : Int) = t) := by rw [← if_pos (c := l = ((s[k].toNat : Nat) : Int)) (t := (t : Int)) (e := la) heq]; exact HLY.out
                    subst heq
                    go_wp2_with fail
                    go_quiet (fail)
                    go_wp2_with fail
                    go_quiet (fail)
                    go_wp2
                    go_roundw
                    case rel => exact ⟨j + 1, by omega, by go_num, by rw [HL1.out], by rw [HS1.out], HBn.out _⟩
                    case measure => simp [intOf]; omega
                  · have HS1 : Hid (sumT (cTab ss) (st.es.take (j + 1)) ((s[k].toNat : Nat) : Int) (rk + cntZ st.ends) = acc) := by rw [← if_neg (c := l < ((s[k].toNat : Nat) : Int)) (t := acc + cTab ss t) (e := acc) hlc]; exact HSY.out
                    have HL1 : Hid (lastT (st.es.take (j + 1)) ((s[k].toNat : Nat) : Int) = la) := by rw [← if_neg (c := l = ((s[k].toNat : Nat) : Int)) (t := (t : Int)) (e := la) heq]; exact HLY.out
                    go_wp2_with fail
                    go_quiet (fail)
                    go_wp2_with fail
                    go_quiet (fail)
                    go_wp2
                    go_roundw
                    case rel => exact ⟨j + 1, by omega, by go_num, by rw [HL1.out], by rw [HS1.out], HBn.out _⟩
                    case measure => simp [intOf]; omega
              · have hke : st.es.take j = st.es := List.take_of_length_le (by omega)
                rw [hke, HGQ.out]
                rw [← HR.out]
                clear hke
                go_wp2
                go_roundw
                case rel => exact ⟨k + 1, q, by omega, by go_num, rfl, rfl, hql, HQ.out, HBj.out⟩
                case measure => simp [intOf]; omega
          | false =>
            go_wp2
            go_loopw [7, 9, 10] (fun r x i wr => ∃ (j : Nat), j ≤ st.es.length ∧ i = .int .i64 j ∧ x = .int .i64 (lastT (st.es.take j) ((s[k].toNat : Nat) : Int)) ∧ r = .int .i64 (sumT (cTab ss) (st.es.take j) ((s[k].toNat : Nat) : Int) (rk + cntZ st.ends)) ∧ Below w3.heap.size w3 wr) (fun _ _ i _ => st.es.length - (intOf i).toNat)
            case atStart => exact ⟨0, Nat.zero_le _, rfl, rfl, by rw [hen]; simp [sumT, cntZ], HB.out⟩
            case round =>
              obtain ⟨j, hj, rfl, rfl, rfl, hb⟩ := hrel
              have HBj : Hid (Below w3.heap.size w3 wr) := hb
              have c2 := (HBj.out.cell (p := ⟨b, off + p * 2 + 1, none⟩) hbl0).trans c20
              have hbl2 : b < wr.heap.size := Nat.lt_of_lt_of_le hbl0 HBj.out.size
              clear hb c1
              by_cases hjl : j < st.es.length
              · obtain ⟨eb, eoff, ecap', e, hv, _, _, hebl, he, e1, e2⟩ := (HE.out.below HBj.out).at hjl
                cases hv
                have hb1 := edsOk_at HD.out he
                have hbd := sumT_bound HDb.out ((s[k].toNat : Nat) : Int) (st.es.take j) (rk + cntZ st.ends)
                have hlk : (st.es.take j).length ≤ 26 := by have := List.length_take_le j st.es; omega
                have HSX := sumT_take (D := cTab ss) (c := ((s[k].toNat : Nat) : Int)) (z := rk + cntZ st.ends) he
                have HLX := lastT_take (c := ((s[k].toNat : Nat) : Int)) he
                obtain ⟨l, t⟩ := e
                simp only at e1 e2 hb1 HSX HLX
                obtain ⟨t, rfl⟩ : ∃ t' : Nat, t = t' := ⟨t.toNat, by omega⟩
                have htn : t < ss.length := by omega
                have d2 : wr.cell? ⟨w2.heap.size, t, none⟩ = some (.int .i64 (cTab ss t)) := (HBj.out.cell (p := ⟨w2.heap.size, t, none⟩) HW3.out.lt).trans (HW3.out.cell (i := t) (by omega))
                have hg : w2.heap.size < wr.heap.size := Nat.lt_of_lt_of_le HW3.out.lt HBj.out.size
                have hdt := HDb.out t
                have hacc : 0 ≤ sumT (cTab ss) (st.es.take j) ((s[k].toNat : Nat) : Int) (rk + cntZ st.ends) ∧ sumT (cTab ss) (st.es.take j) ((s[k].toNat : Nat) : Int) (rk + cntZ st.ends) ≤ 29000000000000000 := by omega
                generalize hac : sumT (cTab ss) (st.es.take j) ((s[k].toNat : Nat) : Int) (rk + cntZ st.ends) = acc at *
                generalize hla : lastT (st.es.take j) ((s[k].toNat : Nat) : Int) = la at *
                have HSX' := HSX
                rw [Int.toNat_natCast] at HSX'
                have HSY : Hid (sumT (cTab ss) (st.es.take (j + 1)) ((s[k].toNat : Nat) : Int) (rk + cntZ st.ends) = if l < ((s[k].toNat : Nat) : Int) then acc + cTab ss t else acc) := HSX'
                have HLY : Hid (lastT (st.es.take (j + 1)) ((s[k].toNat : Nat) : Int) = if l = ((s[k].toNat : Nat) : Int) then (t : Int) else la) := HLX
                clear he hbd hlk hac hla HSX HLX HSX' hz
                have HBn : Hid (∀ n : Nat, Below w3.heap.size w3 ((wr.alloc (.cells #[.int .i64 l, .int .i64 t] 47)).drewN n)) := fun n => below_drewN' (HBj.out.alloc HBj.out.size _) _
                by_cases hlc : l < ((s[k].toNat : Nat) : Int)
                · have hne : ¬ l = ((s[k].toNat : Nat) : Int) := by omega
                  have HS1 : Hid (sumT (cTab ss) (st.es.take (j + 1)) ((s[k].toNat : Nat) : Int) (rk + cntZ st.ends) = acc + cTab ss t) := by rw [← if_pos (c := l < ((s[k].toNat : Nat) : Int)) (t := acc + cTab ss t) (e := acc) hlc]; exact HSY.out
                  have HL1 : Hid (lastT (st.es.take (j + 1)) ((s[k].toNat : Nat) : Int) = la) := by rw [← if_neg (c := l = ((s[k].toNat : Nat) : Int)) (t := (t : Int)) (e := la) hne]; exact HLY.out
                  go_wp2_with fail
                  go_quiet (fail)
                  go_wp2_with fail
                  go_quiet (fail)
                  go_wp2
                  go_roundw
                  case rel => exact ⟨j + 1, by omega, by go_num, by rw [HL1.out], by rw [HS1.out], HBn.out _⟩
                  case measure => simp [intOf]; omega
                · by_cases heq : l = ((s[k].toNat : Nat) : Int)
                  · have HS1 : Hid (sumT (cTab ss) (st.es.take (j + 1)) ((s[k].toNat : Nat) : Int) (rk + cntZ st.ends) = acc) := by rw [← if_neg (c := l < ((s[k].toNat : Nat) : Int)) (t := acc + cTab ss t) (e := acc) hlc]; exact HSY.out
                    have HL1 : Hid (lastT (st.es.take (j + 1)) ((s[k].toNat : Nat) : Int) = t) := by rw [← if_pos (c := l = ((s[k].toNat : Nat) : Int)) (t := (t : Int)) (e := la) heq]; exact HLY.out
                    subst heq
                    go_wp2_with fail
                    go_quiet (fail)
                    go_wp2_with fail
                    go_quiet (fail)
                    go_wp2
                    go_roundw
                    case rel => exact ⟨j + 1, by omega, by go_num, by rw [HL1.out], by rw [HS1.out], HBn.out _⟩
                    case measure => simp [intOf]; omega
                  · have HS1 : Hid (sumT (cTab ss) (st.es.take (j + 1)) ((s[k].toNat : Nat) : Int) (rk + cntZ st.ends) = acc) := by rw [← if_neg (c := l < ((s[k].toNat : Nat) : Int)) (t := acc + cTab ss t) (e := acc) hlc]; exact HSY.out
                    have HL1 : Hid (lastT (st.es.take (j + 1)) ((s[k].toNat : Nat) : Int) = la) := by rw [← if_neg (c := l = ((s[k].toNat : Nat) : Int)) (t := (t : Int)) (e := la) heq]; exact HLY.out
                    go_wp2_with fail
                    go_quiet (fail)
                    go_wp2_with fail
                    go_quiet (fail)
                    go_wp2
                    go_roundw
                    case rel => exact ⟨j + 1, by omega, by go_num, by rw [HL1.out], by rw [HS1.out], HBn.out _⟩
                    case measure => simp [intOf]; omega
              · have hke : st.es.take j = st.es := List.take_of_length_le (by omega)
                rw [hke, HGQ.out]
                rw [← HR.out]
                clear hke
                go_wp2
                go_roundw
                case rel => exact ⟨k + 1, q, by omega, by go_num, rfl, rfl, hql, HQ.out, HBj.out⟩
                case measure => simp [intOf]; omega
        · obtain rfl : k = s.size := by omega
          go_wp2
          go_ret
          rw [HC.out]
          exact ⟨rfl, HB3.out.trans (HB.out.mono HB3.out.size)⟩
set_option maxHeartbeats 1000000 in
theorem fnExactMachineRank_walk (v : Value) (ss : List Sta) (s : ByteArray) (w : World) (h : StatesAt w v ss) (hs : s.size ≤ maxLen) :
    Calls Try.prog 5 #[v, .string s] w fun e w' => e = .returned (.bool true) ∧ Below w.heap.size w w' := by
  obtain ⟨a, cap, rfl, hc, hm⟩ := h.form
  have HS : Hid (StatesAt w (.slice a ss.length cap) ss) := h
  clear h
  unfold maxLen at hs
  by_cases hsz : (s.size : Int) > 1048576
  · go_enter Try.func5, Try.ntmps5
    go_wp2
    go_ret
    exact ⟨rfl, Below.refl _ _⟩
  have hsz' : ¬ (1048576 : Int) < s.size := by omega
  have hsn : s.size ≤ 1048576 := by omega
  go_enter Try.func5, Try.ntmps5
  go_wp2_with fail
  refine (szStateS_any _ _ ss _ HS.out (by omega) (by omega)).mono ?_
  rintro e w1 ⟨⟨r, rfl, hr⟩, hb1⟩
  have HB1 : Hid (Below w.heap.size w w1) := hb1
  have HR : Hid (0 ≤ r → SmallS ss) := hr
  clear hb1 hr
  by_cases hr : r < 0
  · go_wp2
    go_ret
    exact ⟨rfl, HB1.out⟩
  · have HN : Hid (SmallS ss) := HR.out (by omega)
    go_wp2_with fail
    refine (toStateS_any _ _ ss (HS.out.below HB1.out) HN.out).mono ?_
    rintro e w2 ⟨v2, rfl, h2, hb2⟩
    obtain ⟨a2, cap2, rfl, hc2, hm2⟩ := h2.form
    have HB2 : Hid (Below w.heap.size w w2) := HB1.out.trans (hb2.mono HB1.out.size)
    have H2 : Hid (StatesAt w2 (.slice a2 ss.length cap2) ss) := h2
    clear hb2 h2
    go_wp2_with fail
    refine (specMachineRank_any _ _ ss s H2.out hsn).mono ?_
    rintro e w3 ⟨rfl, hb3⟩
    have HB3 : Hid (Below w.heap.size w w3) := HB2.out.trans (hb3.mono HB2.out.size)
    clear hb3
    go_wp2_with fail
    refine (toStateS_any _ _ ss (HS.out.below HB3.out) HN.out).mono ?_
    rintro e w4 ⟨v4, rfl, h4, hb4⟩
    obtain ⟨a4, cap4, rfl, hc4, hm4⟩ := h4.form
    have HB4 : Hid (Below w.heap.size w w4) := HB3.out.trans (hb4.mono HB3.out.size)
    have H4 : Hid (StatesAt w4 (.slice a4 ss.length cap4) ss) := h4
    clear hb4 h4
    go_wp2_with fail
    refine (implMachineRank_any _ _ ss s H4.out hsn).mono ?_
    rintro e w5 ⟨rfl, hb5⟩
    have HB5 : Hid (Below w.heap.size w w5) := HB4.out.trans (hb5.mono HB4.out.size)
    have H5 : Hid (StatesAt w5 (.slice a4 ss.length cap4) ss) := H4.out.below hb5
    clear hb5
    go_wp2_with fail
    refine (toStateS_any _ _ ss (HS.out.below HB5.out) HN.out).mono ?_
    rintro e w6 ⟨v6, rfl, h6, hb6⟩
    obtain ⟨a6, cap6, rfl, hc6, hm6⟩ := h6.form
    have HB6 : Hid (Below w.heap.size w w6) := HB5.out.trans (hb6.mono HB5.out.size)
    have H6 : Hid (StatesAt w6 (.slice a6 ss.length cap6) ss) := h6
    have H6' : Hid (StatesAt w6 (.slice a4 ss.length cap4) ss) := H5.out.below hb6
    clear hb6 h6
    go_wp2_with fail
    refine (eqStateS_same _ _ _ ss H6'.out H6.out).mono ?_
    rintro e w7 ⟨rfl, hb7⟩
    have HB7 : Hid (Below w.heap.size w w7) := HB6.out.trans (hb7.mono HB6.out.size)
    clear hb7
    go_wp2_with fail
    go_ret
    exact ⟨rfl, HB7.out⟩
end Go.Proofs.Ytlpcmikljhoabaa
