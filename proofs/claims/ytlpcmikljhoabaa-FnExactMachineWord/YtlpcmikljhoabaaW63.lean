/-
  spec.MachineWord; the law FnExactMachineWord.
-/
import Derived.Test.YtlpcmikljhoabaaW62
import Derived.Test.YtlpcmikljhoabaaW59
namespace Go.Proofs.Ytlpcmikljhoabaa
open Go.RowKit
set_option linter.unusedVariables false
theorem own_bytes {w : World} {B : Nat} {e : TypeId} {g cap : Nat} {l : List UInt8} (h : w.ownsRow B e 1 (.slice (some ⟨g, 0, none⟩) l.length cap) l.length (Lib.byteCells l)) :
    ∀ j (hj : j < l.length), w.cell? ((⟨g, 0, none⟩ : Addr).add j) = some (.int .u8 (l[j].toNat : Int)) := by
  intro j hj
  rcases h.2 with ⟨h1, _⟩ | ⟨g', cap', cur, hv, hB, hg, hnc, hm, hsz, htk⟩
  · cases h1
  · cases hv
    have ha : (⟨g, 0, none⟩ : Addr).add j = ⟨g, j, none⟩ := by unfold Addr.add; split <;> simp_all
    rw [ha, cell_of_row w g j cur _ _ hg]
    have : (cur.toList.take (l.length * 1))[j]? = some (Value.int .u8 (l[j].toNat : Int)) := by rw [htk]; simp [Lib.byteCells, hj]
    rw [List.getElem?_take_of_lt (by omega)] at this
    simpa using this
theorem cell_one_next (w : World) (o : Obj) (v : Value) (t : TypeId) : ∀ j u, [v][j]? = some u → ((w.alloc o).alloc (.cells #[v] t)).cell? ((⟨w.heap.size + 1, 0, none⟩ : Addr).add j) = some u := by
  intro j u hj
  match j, hj with
  | 0, hj =>
    have e : [v][0]? = some v := rfl
    rw [e] at hj
    cases hj
    have := Go.Deep.blk_alloc_new (w.alloc o) (.cells #[v] t)
    simp at this
    simp [World.cell?, Addr.add, this]
theorem rkOk_sml {ss : List Sta} {rk : Int} (h : smlT ss = false) : rkOk ss rk = false := by
  unfold rkOk
  unfold smlT at h
  rw [h]
  simp
set_option maxRecDepth 100000 in
set_option maxHeartbeats 4000000 in
theorem specMachineWord_any (w : World) (v : Value) (ss : List Sta) (rk : Int) (h : StatesAt w v ss) :
    Calls Try.prog 17 #[v, .int .i64 rk] w fun e w' => e = .returned (.string (mwT ss rk)) ∧ Below w.heap.size w w' := by
  obtain ⟨sa, cap, rfl, hc, hm⟩ := h.form
  have HS : Hid (StatesAt w (.slice sa ss.length cap) ss) := h
  clear h
  unfold maxLen at hm
  cases hsl : smlT ss with
  | false =>
    have HC : Hid (mwT ss rk = ⟨#[]⟩) := by show mwT ss rk = ⟨#[]⟩; unfold mwT; rw [rkOk_sml hsl]; rfl
    go_enter Try.func17, Try.ntmps17
    go_wp2_with fail
    refine (l3Small_any _ _ ss HS.out).mono ?_
    rintro e w1 ⟨rfl, hb1⟩
    have HB1 : Hid (Below w.heap.size w w1) := hb1
    clear hb1
    go_wp2
    go_ret
    rw [HC.out]
    exact ⟨rfl, HB1.out⟩
  | true =>
    have hms : machT ss = true ∧ cTab ss 0 < 1000000000 := by simpa [smlT] using hsl
    obtain ⟨hmt, hlt0⟩ := hms
    obtain ⟨hok, h1, h4⟩ := machT_parts hmt
    have HO : Hid (stasOk ss = true) := hok
    have HMT : Hid (machT ss = true) := hmt
    have HDb : Hid (∀ j, 0 ≤ cTab ss j ∧ cTab ss j ≤ 1000000000) := cTab_bound ss
    obtain ⟨i0, hi0, hz0, hz1, hz2⟩ := info_parts Try.info_byte
    clear hok hmt
    go_enter Try.func17, Try.ntmps17
    go_wp2_with fail
    refine (l3Small_any _ _ ss HS.out).mono ?_
    rintro e w1 ⟨rfl, hb1⟩
    have HB1 : Hid (Below w.heap.size w w1) := hb1
    clear hb1
    go_wp2_with fail
    refine (l3Counts_any _ _ ss (HS.out.below HB1.out) HO.out h1 h4).mono ?_
    rintro e w2 ⟨rfl, hr2, hb2⟩
    have HB2 : Hid (Below w.heap.size w w2) := HB1.out.trans (hb2.mono HB1.out.size)
    have d0 : w2.cell? ⟨w1.heap.size, 0, none⟩ = some (.int .i64 (cTab ss 0)) := hr2.cell (i := 0) (by omega)
    clear hb2 hr2
    have hc0 := HDb.out 0
    generalize hcn : cTab ss 0 = cn at *
    have HCN : Hid (cTab ss 0 = cn) := hcn
    clear hcn
    go_wp2_with fail
    cases hin : inT rk 0 (cn - 1) with
    | false =>
      have HC : Hid (mwT ss rk = ⟨#[]⟩) := by
        show mwT ss rk = ⟨#[]⟩
        unfold mwT
        rw [if_neg]
        simp only [rkOk, Bool.and_eq_true, decide_eq_true_eq, HCN.out]
        simp [inT] at hin
        omega
      refine (l1In_is hin _).mono ?_
      rintro e w' ⟨rfl, he⟩
      rw [he]
      clear he w'
      go_wp2
      go_ret
      rw [HC.out]
      exact ⟨rfl, HB2.out⟩
    | true =>
      have hrk : 0 ≤ rk ∧ rk < cn := by simp [inT] at hin; omega
      obtain ⟨hrk0, hrk1⟩ := hrk
      have HC : Hid (mwT ss rk = ⟨(wdT ss (cTab ss) ss.length 0 rk).toArray⟩) := by
        show mwT ss rk = _
        unfold mwT
        rw [if_pos]
        simp only [rkOk, Bool.and_eq_true, decide_eq_true_eq, HCN.out]
        exact ⟨⟨⟨HMT.out, by omega⟩, by omega⟩, by omega⟩
      refine (l1In_is hin _).mono ?_
      rintro e w' ⟨rfl, he⟩
      rw [he]
      clear he w'
      clear hin d0
      go_wp2_with fail
      refine (l3Counts_any _ _ ss (HS.out.below HB2.out) HO.out h1 h4).mono ?_
      rintro e w3 ⟨rfl, hr3, hb3⟩
      have HB3 : Hid (Below w.heap.size w w3) := HB2.out.trans (hb3.mono HB2.out.size)
      have HW3 : Hid (w3.rowIs w2.heap.size 3 ss.length (tabRow (cTab ss))) := hr3
      clear hb3 hr3
      go_wp2
      go_loopw [1, 6, 7] (fun rv x vo wr => ∃ (p f g cp : Nat) (r : Int) (out : List UInt8), rv = .int .i64 r ∧ x = .int .i64 p ∧ vo = .slice (some ⟨g, 0, none⟩) out.length cp ∧ p < ss.length ∧ ss.length - p ≤ f ∧ out.length + f = ss.length ∧ 0 ≤ r ∧ r < cTab ss p ∧ cTab ss p < 1000000000 ∧ out ++ wdT ss (cTab ss) f p r = wdT ss (cTab ss) ss.length 0 rk ∧
        wr.ownsRow w3.heap.size 5 1 (.slice (some ⟨g, 0, none⟩) out.length cp) out.length (Lib.byteCells out) ∧ Below w3.heap.size w3 wr) (fun _ x _ _ => ss.length - (intOf x).toNat)
      case atStart =>
        refine ⟨0, ss.length, w3.heap.size, 0, rk, [], rfl, rfl, rfl, h1, by omega, by simp, by omega, by rw [HCN.out]; omega, by rw [HCN.out]; omega, rfl, ?_, (Below.refl _ _).alloc (Nat.le_refl _) _⟩
        exact ⟨rfl, .inr ⟨w3.heap.size, 0, #[], rfl, Nat.le_refl _, Go.Deep.blk_alloc_new _ _, Nat.le_refl _, Nat.zero_le _, rfl, rfl⟩⟩
      case round =>
        rename World => wo
        obtain ⟨p, f, g, cp, r, out, rfl, rfl, rfl, hpl, hf, hof, hr0, hr1, hrb, hwd, hown, hb⟩ := hrel
        have HB : Hid (Below w3.heap.size w3 wo) := hb
        have HWD : Hid (out ++ wdT ss (cTab ss) f p r = wdT ss (cTab ss) ss.length 0 rk) := hwd
        have HOW : Hid (wo.ownsRow w3.heap.size 5 1 (.slice (some ⟨g, 0, none⟩) out.length cp) out.length (Lib.byteCells out)) := hown
        clear hb hwd hown
        obtain ⟨f, rfl⟩ : ∃ f', f = f' + 1 := ⟨f - 1, by omega⟩
        obtain ⟨b, off, cap', st, ev, hv, _, _, hbl0, hst, c10, c20, hev⟩ := (HS.out.below HB3.out).at hpl
        cases hv
        obtain ⟨ea, ecap, rfl, hec, hem⟩ := hev.form
        have HX : Hid (ss[p]? = some st) := hst
        have HE : Hid (EdgesIn 0 w3 (.slice ea st.es.length ecap) st.es) := hev
        have HD : Hid (edsOk ((p : Int) + 1) ss.length st.es = true) := staOk_es (stasOk_at HO.out hst)
        have c1 := (HB.out.cell (p := ⟨b, off + p * 2, none⟩) hbl0).trans c10
        have hbl : b < wo.heap.size := Nat.lt_of_lt_of_le hbl0 HB.out.size
        clear hst hev
        unfold maxLen at hem
        by_cases hstop : st.ends = true ∧ r = 0
        · obtain ⟨hen, rfl⟩ := hstop
          have HF : Hid (wdT ss (cTab ss) ss.length 0 rk = out) := by
            show wdT ss (cTab ss) ss.length 0 rk = out
            rw [← HWD.out, wdT_end HX.out hen, List.append_nil]
          rw [hen] at c1
          have hcv := run_convert_bytes_back (P := Try.prog) wo 52 9 5 ⟨g, 0, none⟩ cp out Try.underlying52 Try.underlying5 Try.underlying9 (own_bytes HOW.out)
          clear hen
          go_wp2
          go_ret
          rw [HC.out, HF.out]
          exact ⟨rfl, HB3.out.trans (HB.out.mono HB3.out.size)⟩
        · obtain ⟨i, l, t, hi, hl1, hl2, hpt, htl, hs1, hs2, hs3, hpick, hstep⟩ := word_step HO.out HX.out hr0 hr1 hrb hstop
          have HI : Hid (st.es[i]? = some ((l : Int), (t : Int))) := hi
          have HST : Hid (wdT ss (cTab ss) (f + 1) p r = UInt8.ofNat l :: wdT ss (cTab ss) f t (r - cntZ st.ends - sumD (cTab ss) (st.es.take i))) := hstep f
          have HL1 : Hid (cntZ st.ends + sumD (cTab ss) (st.es.take i) ≤ r) := hs1
          have HL2 : Hid (r < cntZ st.ends + sumD (cTab ss) (st.es.take i) + cTab ss t) := hs2
          have hil : i < st.es.length := (List.getElem?_eq_some_iff.1 hi).1
          have hl8 : l ≤ 255 := by omega
          have hw8 : IntKind.u8.wrap (l : Int) = (l : Int) := by simp [IntKind.wrap, IntKind.bits, IntKind.signed]; omega
          have hrlt : r < 1000000000 := by omega
          have hz := cntZ_bound st.ends
          have hRZ : 0 ≤ r - cntZ st.ends ∧ r - cntZ st.ends ≤ 1000000000 := by have := HL1.out; have := sumD_nonneg HDb.out (st.es.take i); omega
          clear hi hpick hstep hs1 hs2
          cases hen : st.ends with
          | true =>
            have hrp : ¬ r = 0 := fun hh => hstop ⟨hen, hh⟩
            rw [hen] at c1
            have HZ : Hid (cntZ st.ends = 1) := by show cntZ st.ends = _; rw [hen]; rfl
            clear hstop hen
            go_wp2
            go_loopw [1, 6, 7, 8] (fun rv xa xo x wr => ∃ (k : Nat), k ≤ i ∧ x = .int .i64 k ∧ xa = .int .i64 p ∧ xo = .slice (some ⟨g, 0, none⟩) out.length cp ∧ rv = .int .i64 (r - cntZ st.ends - sumD (cTab ss) (st.es.take k)) ∧ wr.ownsRow w3.heap.size 5 1 (.slice (some ⟨g, 0, none⟩) out.length cp) out.length (Lib.byteCells out) ∧ Below w3.heap.size w3 wr) (fun _ _ _ x _ => st.es.length - (intOf x).toNat)
            case atStart => exact ⟨0, Nat.zero_le _, rfl, rfl, rfl, by rw [HZ.out]; simp [sumD], HOW.out, HB.out⟩
            case round =>
              obtain ⟨k, hk, rfl, rfl, rfl, rfl, hown, hb⟩ := hrel
              have HBk : Hid (Below w3.heap.size w3 wr) := hb
              have HOWk : Hid (wr.ownsRow w3.heap.size 5 1 (.slice (some ⟨g, 0, none⟩) out.length cp) out.length (Lib.byteCells out)) := hown
              have c2 := (HBk.out.cell (p := ⟨b, off + p * 2 + 1, none⟩) hbl0).trans c20
              have hbl2 : b < wr.heap.size := Nat.lt_of_lt_of_le hbl0 HBk.out.size
              have hkl : k < st.es.length := by omega
              clear hb hown c1
              obtain ⟨eb, eoff, ecap', e, hv, _, _, hebl, he, e1, e2⟩ := (HE.out.below HBk.out).at hkl
              cases hv
              have hb1 := edsOk_at HD.out he
              have HSD := sumD_take_succ (D := cTab ss) he
              have hsn := sumD_nonneg HDb.out (st.es.take k)
              have hmono := sumD_take_mono HDb.out st.es (i := k) (j := i) hk
              rcases Nat.lt_or_ge k i with hki | hki
              · have hmono2 := sumD_take_mono HDb.out st.es (i := k + 1) (j := i) hki
                obtain ⟨el, et⟩ := e
                simp only at e1 e2 hb1 HSD
                obtain ⟨et, rfl⟩ : ∃ t' : Nat, et = t' := ⟨et.toNat, by omega⟩
                rw [Int.toNat_natCast] at HSD
                have htn : et < ss.length := by omega
                have d2 : wr.cell? ⟨w2.heap.size, et, none⟩ = some (.int .i64 (cTab ss et)) := (HBk.out.cell (p := ⟨w2.heap.size, et, none⟩) HW3.out.lt).trans (HW3.out.cell (i := et) (by omega))
                have hg2 : w2.heap.size < wr.heap.size := Nat.lt_of_lt_of_le HW3.out.lt HBk.out.size
                have hdt := HDb.out et
                have hl1' := HL1.out
                have hge : ¬ (r - cntZ st.ends - sumD (cTab ss) (st.es.take k) < cTab ss et) := by omega
                have hbd : 0 ≤ r - cntZ st.ends - sumD (cTab ss) (st.es.take k) ∧ r - cntZ st.ends - sumD (cTab ss) (st.es.take k) ≤ 1000000000 := by omega
                have HNX : Hid (r - cntZ st.ends - sumD (cTab ss) (st.es.take (k + 1)) = r - cntZ st.ends - sumD (cTab ss) (st.es.take k) - cTab ss et) := by show r - cntZ st.ends - sumD (cTab ss) (st.es.take (k + 1)) = _; omega
                generalize r - cntZ st.ends - sumD (cTab ss) (st.es.take k) = rr at *
                generalize hdd : cTab ss et = dt at *
                clear he HSD hmono hmono2 hsn hl1' hdd
                go_wp2
                go_roundw
                case rel => exact ⟨k + 1, by omega, by go_num, rfl, rfl, by rw [HNX.out], HOWk.out.alloc _, HBk.out.alloc HBk.out.size _⟩
                case measure => simp [intOf]; omega
              · obtain rfl : k = i := by omega
                rw [HI.out] at he
                cases he
                simp only at e1 e2 hb1
                have d2 : wr.cell? ⟨w2.heap.size, t, none⟩ = some (.int .i64 (cTab ss t)) := (HBk.out.cell (p := ⟨w2.heap.size, t, none⟩) HW3.out.lt).trans (HW3.out.cell (i := t) (by omega))
                have hg2 : w2.heap.size < wr.heap.size := Nat.lt_of_lt_of_le HW3.out.lt HBk.out.size
                have hl1' := HL1.out
                have hl2' := HL2.out
                have hge : r - cntZ st.ends - sumD (cTab ss) (st.es.take k) < cTab ss t := by omega
                have hbd : 0 ≤ r - cntZ st.ends - sumD (cTab ss) (st.es.take k) := by omega
                generalize hrr : r - cntZ st.ends - sumD (cTab ss) (st.es.take k) = rr at *
                have hdd : cTab ss t < 1000000000 := hs3
                have HCT : Hid (cTab ss t < 1000000000) := hs3
                clear HSD hsn hmono hl1' hl2' hrr hdd
                go_wp2_with (at_builtin; refine wpList_append_own _ rfl _ _ 52 rfl w3.heap.size 5 i0 (.int .u8 0) 1 1 Try.underlying52 hi0 hz0 hz1 hz2 rfl (by decide) _ _ _ rfl ((HOWk.out.alloc _).alloc _) ⟨wr.heap.size + 1, 0, none⟩ 1 1 [.int .u8 l] rfl rfl ?c1 ?c2 ?c3 ?c4 ?c5 ?_)
                case c1 => exact cell_one_next _ _ _ _
                case c2 => intro u hu; simp at hu; subst hu; rfl
                case c3 => unfold maxLen; omega
                case c4 => omega
                case c5 => have := HBk.out.size; simp; omega
                intro v' w5 hown' hgrow _
                obtain ⟨g', cp', rfl⟩ : ∃ g' cp', v' = .slice (some ⟨g', 0, none⟩) (out.length + 1) cp' := by
                  rcases hown'.2 with ⟨_, h0⟩ | ⟨g', cp', cur, hv, _⟩
                  · omega
                  · exact ⟨g', cp', hv⟩
                have HOW5 : Hid (w5.ownsRow w3.heap.size 5 1 (.slice (some ⟨g', 0, none⟩) (out ++ [UInt8.ofNat l]).length cp') (out ++ [UInt8.ofNat l]).length (Lib.byteCells (out ++ [UInt8.ofNat l]))) := by
                  rw [byteCells_snoc _ _ hl8, List.length_append]
                  exact hown'
                have HB5 : Hid (Below w3.heap.size w3 w5) := ((HBk.out.alloc HBk.out.size _).alloc (by have := HBk.out.size; simp; omega) _).grown hgrow (by have := HBk.out.size; simp; omega) (fun q hq => (HOWk.out.lt q hq).1)
                have hgb : w5.cell? ⟨wr.heap.size, 1, none⟩ = some (.int .i64 t) := by
                  refine hgrow.cell (a := ⟨wr.heap.size, 1, none⟩) ?_ ?_
                  · simp [go_sem]
                  · intro hh
                    have := (HOWk.out.lt wr.heap.size hh.symm).2
                    omega
                clear hgrow hown'
                go_wp2
                go_roundw
                case rel =>
                  refine ⟨t, f, g', cp', rr, out ++ [UInt8.ofNat l], rfl, rfl, by simp, htl, by omega, by simp; omega, hbd, by omega, HCT.out, ?_, HOW5.out, HB5.out⟩
                  rw [← HWD.out, HST.out]
                  simp
                case measure => simp [intOf]; omega
          | false =>
            rw [hen] at c1
            have HZ : Hid (cntZ st.ends = 0) := by show cntZ st.ends = _; rw [hen]; rfl
            clear hstop hen
            go_wp2
            go_loopw [1, 6, 7, 8] (fun rv xa xo x wr => ∃ (k : Nat), k ≤ i ∧ x = .int .i64 k ∧ xa = .int .i64 p ∧ xo = .slice (some ⟨g, 0, none⟩) out.length cp ∧ rv = .int .i64 (r - cntZ st.ends - sumD (cTab ss) (st.es.take k)) ∧ wr.ownsRow w3.heap.size 5 1 (.slice (some ⟨g, 0, none⟩) out.length cp) out.length (Lib.byteCells out) ∧ Below w3.heap.size w3 wr) (fun _ _ _ x _ => st.es.length - (intOf x).toNat)
            case atStart => exact ⟨0, Nat.zero_le _, rfl, rfl, rfl, by rw [HZ.out]; simp [sumD], HOW.out, HB.out⟩
            case round =>
              obtain ⟨k, hk, rfl, rfl, rfl, rfl, hown, hb⟩ := hrel
              have HBk : Hid (Below w3.heap.size w3 wr) := hb
              have HOWk : Hid (wr.ownsRow w3.heap.size 5 1 (.slice (some ⟨g, 0, none⟩) out.length cp) out.length (Lib.byteCells out)) := hown
              have c2 := (HBk.out.cell (p := ⟨b, off + p * 2 + 1, none⟩) hbl0).trans c20
              have hbl2 : b < wr.heap.size := Nat.lt_of_lt_of_le hbl0 HBk.out.size
              have hkl : k < st.es.length := by omega
              clear hb hown c1
              obtain ⟨eb, eoff, ecap', e, hv, _, _, hebl, he, e1, e2⟩ := (HE.out.below HBk.out).at hkl
              cases hv
              have hb1 := edsOk_at HD.out he
              have HSD := sumD_take_succ (D := cTab ss) he
              have hsn := sumD_nonneg HDb.out (st.es.take k)
              have hmono := sumD_take_mono HDb.out st.es (i := k) (j := i) hk
              rcases Nat.lt_or_ge k i with hki | hki
              · have hmono2 := sumD_take_mono HDb.out st.es (i := k + 1) (j := i) hki
                obtain ⟨el, et⟩ := e
                simp only at e1 e2 hb1 HSD
                obtain ⟨et, rfl⟩ : ∃ t' : Nat, et = t' := ⟨et.toNat, by omega⟩
                rw [Int.toNat_natCast] at HSD
                have htn : et < ss.length := by omega
                have d2 : wr.cell? ⟨w2.heap.size, et, none⟩ = some (.int .i64 (cTab ss et)) := (HBk.out.cell (p := ⟨w2.heap.size, et, none⟩) HW3.out.lt).trans (HW3.out.cell (i := et) (by omega))
                have hg2 : w2.heap.size < wr.heap.size := Nat.lt_of_lt_of_le HW3.out.lt HBk.out.size
                have hdt := HDb.out et
                have hl1' := HL1.out
                have hge : ¬ (r - cntZ st.ends - sumD (cTab ss) (st.es.take k) < cTab ss et) := by omega
                have hbd : 0 ≤ r - cntZ st.ends - sumD (cTab ss) (st.es.take k) ∧ r - cntZ st.ends - sumD (cTab ss) (st.es.take k) ≤ 1000000000 := by omega
                have HNX : Hid (r - cntZ st.ends - sumD (cTab ss) (st.es.take (k + 1)) = r - cntZ st.ends - sumD (cTab ss) (st.es.take k) - cTab ss et) := by show r - cntZ st.ends - sumD (cTab ss) (st.es.take (k + 1)) = _; omega
                generalize r - cntZ st.ends - sumD (cTab ss) (st.es.take k) = rr at *
                generalize hdd : cTab ss et = dt at *
                clear he HSD hmono hmono2 hsn hl1' hdd
                go_wp2
                go_roundw
                case rel => exact ⟨k + 1, by omega, by go_num, rfl, rfl, by rw [HNX.out], HOWk.out.alloc _, HBk.out.alloc HBk.out.size _⟩
                case measure => simp [intOf]; omega
              · obtain rfl : k = i := by omega
                rw [HI.out] at he
                cases he
                simp only at e1 e2 hb1
                have d2 : wr.cell? ⟨w2.heap.size, t, none⟩ = some (.int .i64 (cTab ss t)) := (HBk.out.cell (p := ⟨w2.heap.size, t, none⟩) HW3.out.lt).trans (HW3.out.cell (i := t) (by omega))
                have hg2 : w2.heap.size < wr.heap.size := Nat.lt_of_lt_of_le HW3.out.lt HBk.out.size
                have hl1' := HL1.out
                have hl2' := HL2.out
                have hge : r - cntZ st.ends - sumD (cTab ss) (st.es.take k) < cTab ss t := by omega
                have hbd : 0 ≤ r - cntZ st.ends - sumD (cTab ss) (st.es.take k) := by omega
                generalize hrr : r - cntZ st.ends - sumD (cTab ss) (st.es.take k) = rr at *
                have hdd : cTab ss t < 1000000000 := hs3
                have HCT : Hid (cTab ss t < 1000000000) := hs3
                clear HSD hsn hmono hl1' hl2' hrr hdd
                go_wp2_with (at_builtin; refine wpList_append_own _ rfl _ _ 52 rfl w3.heap.size 5 i0 (.int .u8 0) 1 1 Try.underlying52 hi0 hz0 hz1 hz2 rfl (by decide) _ _ _ rfl ((HOWk.out.alloc _).alloc _) ⟨wr.heap.size + 1, 0, none⟩ 1 1 [.int .u8 l] rfl rfl ?c1 ?c2 ?c3 ?c4 ?c5 ?_)
                case c1 => exact cell_one_next _ _ _ _
                case c2 => intro u hu; simp at hu; subst hu; rfl
                case c3 => unfold maxLen; omega
                case c4 => omega
                case c5 => have := HBk.out.size; simp; omega
                intro v' w5 hown' hgrow _
                obtain ⟨g', cp', rfl⟩ : ∃ g' cp', v' = .slice (some ⟨g', 0, none⟩) (out.length + 1) cp' := by
                  rcases hown'.2 with ⟨_, h0⟩ | ⟨g', cp', cur, hv, _⟩
                  · omega
                  · exact ⟨g', cp', hv⟩
                have HOW5 : Hid (w5.ownsRow w3.heap.size 5 1 (.slice (some ⟨g', 0, none⟩) (out ++ [UInt8.ofNat l]).length cp') (out ++ [UInt8.ofNat l]).length (Lib.byteCells (out ++ [UInt8.ofNat l]))) := by
                  rw [byteCells_snoc _ _ hl8, List.length_append]
                  exact hown'
                have HB5 : Hid (Below w3.heap.size w3 w5) := ((HBk.out.alloc HBk.out.size _).alloc (by have := HBk.out.size; simp; omega) _).grown hgrow (by have := HBk.out.size; simp; omega) (fun q hq => (HOWk.out.lt q hq).1)
                have hgb : w5.cell? ⟨wr.heap.size, 1, none⟩ = some (.int .i64 t) := by
                  refine hgrow.cell (a := ⟨wr.heap.size, 1, none⟩) ?_ ?_
                  · simp [go_sem]
                  · intro hh
                    have := (HOWk.out.lt wr.heap.size hh.symm).2
                    omega
                clear hgrow hown'
                go_wp2
                go_roundw
                case rel =>
                  refine ⟨t, f, g', cp', rr, out ++ [UInt8.ofNat l], rfl, rfl, by simp, htl, by omega, by simp; omega, hbd, by omega, HCT.out, ?_, HOW5.out, HB5.out⟩
                  rw [← HWD.out, HST.out]
                  simp
                case measure => simp [intOf]; omega
set_option maxHeartbeats 1000000 in
theorem fnExactMachineWord_walk (v : Value) (ss : List Sta) (rk : Int) (w : World) (h : StatesAt w v ss) (hrk : (Lit.int .i64 rk).wf = true) :
    Calls Try.prog 6 #[v, .int .i64 rk] w fun e w' => e = .returned (.bool true) ∧ Below w.heap.size w w' := by
  obtain ⟨a, cap, rfl, hc, hm⟩ := h.form
  have HS : Hid (StatesAt w (.slice a ss.length cap) ss) := h
  clear h
  go_enter Try.func6, Try.ntmps6
  go_wp2_with fail
  refine (szStateS_any _ _ ss _ HS.out (by omega) (by omega)).mono ?_
  rintro e w1 ⟨⟨r, rfl, hr⟩, hb1⟩
  have HB1 : Hid (Below w.heap.size w w1) := hb1
  have HR : Hid (0 ≤ r → SmallS ss) := hr
  clear hb1 hr
  by_cases hr : r < 0
  · go_wp2
    go_ret
    exact ⟨rfl, HB1.out⟩
  · have HN : Hid (SmallS ss) := HR.out (by omega)
    go_wp2_with fail
    refine (toStateS_any _ _ ss (HS.out.below HB1.out) HN.out).mono ?_
    rintro e w2 ⟨v2, rfl, h2, hb2⟩
    obtain ⟨a2, cap2, rfl, hc2, hm2⟩ := h2.form
    have HB2 : Hid (Below w.heap.size w w2) := HB1.out.trans (hb2.mono HB1.out.size)
    have H2 : Hid (StatesAt w2 (.slice a2 ss.length cap2) ss) := h2
    clear hb2 h2
    go_wp2_with fail
    refine (specMachineWord_any _ _ ss rk H2.out).mono ?_
    rintro e w3 ⟨rfl, hb3⟩
    have HB3 : Hid (Below w.heap.size w w3) := HB2.out.trans (hb3.mono HB2.out.size)
    clear hb3
    go_wp2_with fail
    refine (toStateS_any _ _ ss (HS.out.below HB3.out) HN.out).mono ?_
    rintro e w4 ⟨v4, rfl, h4, hb4⟩
    obtain ⟨a4, cap4, rfl, hc4, hm4⟩ := h4.form
    have HB4 : Hid (Below w.heap.size w w4) := HB3.out.trans (hb4.mono HB3.out.size)
    have H4 : Hid (StatesAt w4 (.slice a4 ss.length cap4) ss) := h4
    clear hb4 h4
    go_wp2_with fail
    refine (implMachineWord_any _ _ ss rk H4.out).mono ?_
    rintro e w5 ⟨rfl, hb5⟩
    have HB5 : Hid (Below w.heap.size w w5) := HB4.out.trans (hb5.mono HB4.out.size)
    have H5 : Hid (StatesAt w5 (.slice a4 ss.length cap4) ss) := H4.out.below hb5
    clear hb5
    go_wp2_with fail
    refine (toStateS_any _ _ ss (HS.out.below HB5.out) HN.out).mono ?_
    rintro e w6 ⟨v6, rfl, h6, hb6⟩
    obtain ⟨a6, cap6, rfl, hc6, hm6⟩ := h6.form
    have HB6 : Hid (Below w.heap.size w w6) := HB5.out.trans (hb6.mono HB5.out.size)
    have H6 : Hid (StatesAt w6 (.slice a6 ss.length cap6) ss) := h6
    have H6' : Hid (StatesAt w6 (.slice a4 ss.length cap4) ss) := H5.out.below hb6
    clear hb6 h6
    go_wp2_with fail
    refine (eqStateS_same _ _ _ ss H6'.out H6.out).mono ?_
    rintro e w7 ⟨rfl, hb7⟩
    have HB7 : Hid (Below w.heap.size w w7) := HB6.out.trans (hb7.mono HB6.out.size)
    clear hb7
    go_wp2_with fail
    go_ret
    exact ⟨rfl, HB7.out⟩
end Go.Proofs.Ytlpcmikljhoabaa
