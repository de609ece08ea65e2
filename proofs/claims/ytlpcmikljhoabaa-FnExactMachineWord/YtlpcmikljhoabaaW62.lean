/-
  impl.MachineWord.
-/
import Derived.Test.YtlpcmikljhoabaaW61
import Derived.Test.YtlpcmikljhoabaaW60
import Derived.Test.YtlpcmikljhoabaaShelf
import Derived.Test.YtlpcmikljhoabaaW55
namespace Go.Proofs.Ytlpcmikljhoabaa
open Go.RowKit
set_option linter.unusedVariables false
theorem byteCells_snoc (l : List UInt8) (c : Nat) (h : c ≤ 255) : Lib.byteCells (l ++ [UInt8.ofNat c]) = Lib.byteCells l ++ [.int .u8 (c : Int)] := by
  simp [Lib.byteCells]
  omega
/-- A machine is ok, and knows not too much, and a rank is one of it. -/
def rkOk (ss : List Sta) (rk : Int) : Bool := machT ss && decide (cTab ss 0 < 1000000000) && decide (0 ≤ rk) && decide (rk < cTab ss 0)
/-- The text of a rank. -/
def mwT (ss : List Sta) (rk : Int) : ByteArray := if rkOk ss rk then ⟨(wdT ss (cTab ss) ss.length 0 rk).toArray⟩ else ⟨#[]⟩
set_option maxRecDepth 100000 in
set_option maxHeartbeats 4000000 in
theorem implMachineWord_any (w : World) (v : Value) (ss : List Sta) (rk : Int) (h : StatesAt w v ss) :
    Calls Try.prog 18 #[v, .int .i64 rk] w fun e w' => e = .returned (.string (mwT ss rk)) ∧ Below w.heap.size w w' := by
  obtain ⟨sa, cap, rfl, hc, hm⟩ := h.form
  have HS : Hid (StatesAt w (.slice sa ss.length cap) ss) := h
  clear h
  unfold maxLen at hm
  cases hmt : machT ss with
  | false =>
    have HC : Hid (mwT ss rk = ⟨#[]⟩) := by show mwT ss rk = ⟨#[]⟩; simp [mwT, rkOk, hmt]
    go_enter Try.func18, Try.ntmps18
    go_wp2_with fail
    refine (implMachineOk_any _ _ ss HS.out).mono ?_
    rintro e w1 ⟨rfl, hb1⟩
    have HB1 : Hid (Below w.heap.size w w1) := hb1
    clear hb1
    go_wp2
    go_ret
    rw [HC.out]
    exact ⟨rfl, HB1.out⟩
  | true =>
    obtain ⟨hok, h1, h4⟩ := machT_parts hmt
    have HO : Hid (stasOk ss = true) := hok
    have HMT : Hid (machT ss = true) := hmt
    have HDb : Hid (∀ j, 0 ≤ cTab ss j ∧ cTab ss j ≤ 1000000000) := cTab_bound ss
    clear hok
    go_enter Try.func18, Try.ntmps18
    go_wp2_with fail
    refine (implMachineOk_any _ _ ss HS.out).mono ?_
    rintro e w1 ⟨rfl, hb1⟩
    have HB1 : Hid (Below w.heap.size w w1) := hb1
    clear hb1
    go_wp2_with fail
    refine (counts_any _ _ ss (HS.out.below HB1.out) HO.out h1 h4).mono ?_
    rintro e w2 ⟨rfl, hr2, hb2⟩
    have HB2 : Hid (Below w.heap.size w w2) := HB1.out.trans (hb2.mono HB1.out.size)
    have HW2 : Hid (w2.rowIs w1.heap.size 3 ss.length (tabRow (cTab ss))) := hr2
    have d0 : w2.cell? ⟨w1.heap.size, 0, none⟩ = some (.int .i64 (cTab ss 0)) := hr2.cell (i := 0) (by omega)
    clear hb2 hr2 hmt
    have hc0 := HDb.out 0
    generalize hcn : cTab ss 0 = cn at *
    have HCN : Hid (cTab ss 0 = cn) := hcn
    clear hcn
    by_cases hr0 : rk < 0
    · have HC : Hid (mwT ss rk = ⟨#[]⟩) := by show mwT ss rk = ⟨#[]⟩; unfold mwT; rw [if_neg]; simp only [rkOk, Bool.and_eq_true, decide_eq_true_eq]; omega
      go_wp2
      go_ret
      rw [HC.out]
      exact ⟨rfl, HB2.out⟩
    by_cases hr1 : cn ≤ rk
    · have HC : Hid (mwT ss rk = ⟨#[]⟩) := by show mwT ss rk = ⟨#[]⟩; unfold mwT; rw [if_neg]; simp only [rkOk, Bool.and_eq_true, decide_eq_true_eq, HCN.out]; omega
      have hr1' : rk ≥ cn := hr1
      go_wp2
      go_ret
      rw [HC.out]
      exact ⟨rfl, HB2.out⟩
    by_cases hbig : cn = 1000000000
    · have HC : Hid (mwT ss rk = ⟨#[]⟩) := by show mwT ss rk = ⟨#[]⟩; unfold mwT; rw [if_neg]; simp only [rkOk, Bool.and_eq_true, decide_eq_true_eq, HCN.out]; omega
      have hr1' : ¬ rk ≥ cn := hr1
      go_wp2
      go_ret
      rw [HC.out]
      exact ⟨rfl, HB2.out⟩
    have hr1' : ¬ rk ≥ cn := hr1
    have HC : Hid (mwT ss rk = ⟨(wdT ss (cTab ss) ss.length 0 rk).toArray⟩) := by
      show mwT ss rk = _
      unfold mwT
      rw [if_pos]
      simp only [rkOk, Bool.and_eq_true, decide_eq_true_eq, HCN.out]
      exact ⟨⟨⟨HMT.out, by omega⟩, by omega⟩, by omega⟩
    have dn0 : decide (rk < 0) = false := by simpa using hr0
    have dn1 : decide (cn ≤ rk) = false := by simpa using hr1
    go_wp2_with (go_at_call 29; refine (walk_any _ _ _ _).mono ?_; rintro e w' ⟨rfl, rfl⟩)
    clear d0
    go_loopw [1, 7] (fun rv x wr => ∃ (p f : Nat) (r : Int) (out : List UInt8), rv = .int .i64 r ∧ x = .int .i64 p ∧ p < ss.length ∧ ss.length - p ≤ f ∧ out.length + f = ss.length ∧ 0 ≤ r ∧ r < cTab ss p ∧ cTab ss p < 1000000000 ∧ out ++ wdT ss (cTab ss) f p r = wdT ss (cTab ss) ss.length 0 rk ∧
      Lib.IsBuilder 55 5 w2.heap.size w2.heap.size (Lib.byteCells out) wr ∧ wr.heap[w2.heap.size + 1]? = some (.cells #[.slice sa ss.length cap] 25 (0, 0)) ∧ wr.heap[w2.heap.size + 2]? = some (.cells #[.int .i64 p] 3 (0, 0)) ∧ Below w2.heap.size w2 wr) (fun _ x _ => ss.length - (intOf x).toNat)
    case atStart =>
      refine ⟨0, ss.length, rk, [], rfl, rfl, h1, by omega, by simp, by omega, by rw [HCN.out]; omega, by rw [HCN.out]; omega, rfl, ?_, ?_, ?_, ?_⟩
      · refine .inl ⟨Nat.le_refl _, .slice none 0 0, ?_, World.ownsRow_nil .., by simp [Value.ownBlock]⟩
        rw [Below.heap_alloc _ _ _ (by simp <;> omega), Below.heap_alloc _ _ _ (by simp)]
        exact Go.Deep.blk_alloc_new _ _
      · rw [Below.heap_alloc _ _ _ (by simp)]
        have := Go.Deep.blk_alloc_new (w2.alloc (.cells #[.pointer none, .slice none 0 0] 55)) (.cells #[.slice sa ss.length cap] 25)
        simpa using this
      · have := Go.Deep.blk_alloc_new ((w2.alloc (.cells #[.pointer none, .slice none 0 0] 55)).alloc (.cells #[.slice sa ss.length cap] 25)) (.cells #[.int .i64 0] 3)
        simpa using this
      · exact (((Below.refl _ _).alloc (Nat.le_refl _) _).alloc (by simp) _).alloc (by simp <;> omega) _
    case round =>
      obtain ⟨p, f, r, out, rfl, rfl, hpl, hf, hof, hr0', hr1'', hrb, hwd, hbd, hq, hpp, hb⟩ := hrel
      have HB : Hid (Below w2.heap.size w2 wr) := hb
      have HWD : Hid (out ++ wdT ss (cTab ss) f p r = wdT ss (cTab ss) ss.length 0 rk) := hwd
      have HBD : Hid (Lib.IsBuilder 55 5 w2.heap.size w2.heap.size (Lib.byteCells out) wr) := hbd
      have HQ : Hid (wr.heap[w2.heap.size + 1]? = some (.cells #[.slice sa ss.length cap] 25 (0, 0))) := hq
      have HPP : Hid (wr.heap[w2.heap.size + 2]? = some (.cells #[.int .i64 p] 3 (0, 0))) := hpp
      have HSr : Hid (StatesAt wr (.slice sa ss.length cap) ss) := HS.out.below (HB2.out.trans (hb.mono HB2.out.size))
      have HWr : Hid (wr.rowIs w1.heap.size 3 ss.length (tabRow (cTab ss))) := rowIs_below HW2.out hb
      have hsz2 : w2.heap.size + 2 < wr.heap.size := (Array.getElem?_eq_some_iff.1 hpp).1
      clear hb hwd hbd hq hpp
      obtain ⟨f, rfl⟩ : ∃ f', f = f' + 1 := ⟨f - 1, by omega⟩
      obtain ⟨b, off, cap', st, ev, hv, _, _, hbl, hst, c1, c2, hev⟩ := HSr.out.at hpl
      cases hv
      have HX : Hid (ss[p]? = some st) := hst
      have HE : Hid (EdgesIn 0 wr ev st.es) := hev
      have HD : Hid (edsOk ((p : Int) + 1) ss.length st.es = true) := staOk_es (stasOk_at HO.out hst)
      clear hst hev
      by_cases hstop : st.ends = true ∧ r = 0
      · obtain ⟨hen, rfl⟩ := hstop
        have HF : Hid (wdT ss (cTab ss) ss.length 0 rk = out) := by
          show wdT ss (cTab ss) ss.length 0 rk = out
          rw [← HWD.out, wdT_end HX.out hen, List.append_nil]
        rw [hen] at c1
        clear hen
        go_wp2_with fail
        refine (Try.Builder_String_any _ _ out _ HBD.out (by omega)).mono ?_
        rintro e w' ⟨rfl, hb'⟩
        have HB' : Hid (Below w.heap.size w w') := (HB2.out.trans (HB.out.mono HB2.out.size)).trans (hb'.mono HB2.out.size)
        clear hb'
        go_wp2
        go_ret
        rw [HC.out, HF.out]
        exact ⟨rfl, HB'.out⟩
      · obtain ⟨i, l, t, hi, hl1, hl2, hpt, htl, hs1, hs2, hs3, hpick, hstep⟩ := word_step HO.out HX.out hr0' hr1'' hrb hstop
        have HI : Hid (st.es[i]? = some ((l : Int), (t : Int))) := hi
        have HST : Hid (wdT ss (cTab ss) (f + 1) p r = UInt8.ofNat l :: wdT ss (cTab ss) f t (r - cntZ st.ends - sumD (cTab ss) (st.es.take i))) := hstep f
        have HL1 : Hid (cntZ st.ends + sumD (cTab ss) (st.es.take i) ≤ r) := hs1
        have HL2 : Hid (r < cntZ st.ends + sumD (cTab ss) (st.es.take i) + cTab ss t) := hs2
        have HSL : Hid (sumT (cTab ss) st.es (l : Int) (cntZ st.ends) = cntZ st.ends + sumD (cTab ss) (st.es.take i)) := sumT_letter HD.out hi (cTab ss) (cntZ st.ends)
        have HGT : Hid (goT ss p l = t) := by show goT ss p l = t; rw [goT_at HX.out]; exact lastT_found HD.out hi rfl
        have hl8 : l ≤ 255 := by omega
        have hbr := aheadT_bound HO.out HDb.out HX.out (l : Int)
        rw [aheadT_at HX.out, HSL.out] at hbr
        have hrlt : r < 1000000000 := by omega
        generalize hah : cntZ st.ends + sumD (cTab ss) (st.es.take i) = ah at *
        have HAH : Hid (r - cntZ st.ends - sumD (cTab ss) (st.es.take i) = r - ah) := by show r - cntZ st.ends - sumD (cTab ss) (st.es.take i) = r - ah; omega
        clear hi hpick hstep hah
        have key : Calls Try.prog 32 #[.agg #[.bool st.ends, ev], .int .i64 r, .slice (some ⟨w1.heap.size, 0, none⟩) ss.length ss.length] wr fun e w' => e = .returned (.int .u8 l) ∧ Below wr.heap.size wr w' :=
          toward_any wr _ _ st.es r _ _ _ i l t _ HE.out HD.out (by omega) h4 HWr.out HDb.out HI.out (by have := HL1.out; have := HAH.out; omega) (by have := HL2.out; have := HAH.out; omega)
        have KEY : Hid (Calls Try.prog 32 #[.agg #[.bool st.ends, ev], .int .i64 r, .slice (some ⟨w1.heap.size, 0, none⟩) ss.length ss.length] wr fun e w' => e = .returned (.int .u8 l) ∧ Below wr.heap.size wr w') := key
        clear key
        cases hen : st.ends with
        | true =>
          have hrp : r > 0 := by
            rcases Int.lt_or_eq_of_le hr0' with hh | hh
            · exact hh
            · exact absurd ⟨hen, hh.symm⟩ hstop
          rw [hen] at KEY c1 HSL
          clear hstop
          go_wp2_with fail
          refine KEY.out.mono ?_
          rintro e w3 ⟨rfl, hb3⟩
          have HB3 : Hid (Below wr.heap.size wr w3) := hb3
          have c1' := (hb3.cell (p := ⟨b, off + p * 2, none⟩) hbl).trans c1
          have c2' := (hb3.cell (p := ⟨b, off + p * 2 + 1, none⟩) hbl).trans c2
          have hbl3 : b < w3.heap.size := Nat.lt_of_lt_of_le hbl hb3.size
          clear hb3 c1 c2 KEY
          go_wp2_with fail
          refine (ahead_any _ _ _ st.es _ _ _ _ _ (HE.out.below HB3.out) HD.out (by omega) h4 hl8 (rowIs_below HWr.out HB3.out) HDb.out).mono ?_
          rintro e w4 ⟨rfl, hb4⟩
          rw [HSL.out]
          have HB4 : Hid (Below wr.heap.size wr w4) := HB3.out.trans (hb4.mono HB3.out.size)
          clear hb4 c1' c2'
          go_wp2_with fail
          refine (writeByte_any w2.heap.size w2.heap.size (Lib.byteCells out) l _ (builder_below HBD.out HB4.out) (by rw [Lib.byteCells_length]; omega) (by have := HB4.out.size; omega)).mono ?_
          rintro e w5 ⟨rfl, hbd5, hb5, hk5⟩
          have HQ5 : Hid (w5.heap[w2.heap.size + 1]? = some (.cells #[.slice (some ⟨b, off, none⟩) ss.length cap] 25 (0, 0))) := hk5 _ _ ((HB4.out.block _ (by omega)).trans HQ.out) (by simp) (by intro c fz; simp)
          have HP5 : Hid (w5.heap[w2.heap.size + 2]? = some (.cells #[.int .i64 p] 3 (0, 0))) := hk5 _ _ ((HB4.out.block _ hsz2).trans HPP.out) (by simp) (by intro c fz; simp)
          have HBD5 : Hid (Lib.IsBuilder 55 5 w2.heap.size w2.heap.size (Lib.byteCells (out ++ [UInt8.ofNat l])) w5) := by
            rw [byteCells_snoc _ _ hl8]
            exact hbd5
          have HB5 : Hid (Below w2.heap.size w2 w5) := (HB.out.trans (HB4.out.mono (by omega))).trans hb5
          have hq5 : w5.cell? ⟨w2.heap.size + 1, 0, none⟩ = some (.slice (some ⟨b, off, none⟩) ss.length cap) := by simp [World.cell?, HQ5.out]
          clear hbd5 hb5 hk5
          go_wp2_with fail
          refine (walk1_kept _ _ _ _ ss p l (HS.out.below (HB2.out.trans (HB5.out.mono HB2.out.size))) HO.out hq5 HP5.out hpl hl8).mono ?_
          rintro e w6 ⟨rfl, hp6, hk6, hb6⟩
          rw [HGT.out] at hp6 ⊢
          have hlt5 : w2.heap.size + 1 < w5.heap.size := (Array.getElem?_eq_some_iff.1 HQ5.out).1
          have HQ6 : Hid (w6.heap[w2.heap.size + 1]? = some (.cells #[.slice (some ⟨b, off, none⟩) ss.length cap] 25 (0, 0))) := (hk6 _ hlt5 (by omega)).trans HQ5.out
          have HBD6 : Hid (Lib.IsBuilder 55 5 w2.heap.size w2.heap.size (Lib.byteCells (out ++ [UInt8.ofNat l])) w6) := builder_kept HBD5.out _ hk6 (by omega) (by intro c fz hh; rw [HP5.out] at hh; simp at hh)
          have HP6 : Hid (w6.heap[w2.heap.size + 2]? = some (.cells #[.int .i64 t] 3 (0, 0))) := hp6
          have HB6 : Hid (Below w2.heap.size w2 w6) := HB5.out.trans (hb6.mono (by omega))
          clear hp6 hk6 hb6 hq5
          go_wp2
          go_roundw
          case rel =>
            refine ⟨t, f, r - ah, out ++ [UInt8.ofNat l], rfl, rfl, htl, by omega, by simp; omega, by omega, by have := HL2.out; omega, hs3, ?_, HBD6.out, HQ6.out, HP6.out, HB6.out⟩
            rw [← HWD.out, HST.out, HAH.out]
            simp
          case measure => simp [intOf]; omega
        | false =>
          rw [hen] at KEY c1 HSL
          clear hstop
          go_wp2_with fail
          refine KEY.out.mono ?_
          rintro e w3 ⟨rfl, hb3⟩
          have HB3 : Hid (Below wr.heap.size wr w3) := hb3
          have c1' := (hb3.cell (p := ⟨b, off + p * 2, none⟩) hbl).trans c1
          have c2' := (hb3.cell (p := ⟨b, off + p * 2 + 1, none⟩) hbl).trans c2
          have hbl3 : b < w3.heap.size := Nat.lt_of_lt_of_le hbl hb3.size
          clear hb3 c1 c2 KEY
          go_wp2_with fail
          refine (ahead_any _ _ _ st.es _ _ _ _ _ (HE.out.below HB3.out) HD.out (by omega) h4 hl8 (rowIs_below HWr.out HB3.out) HDb.out).mono ?_
          rintro e w4 ⟨rfl, hb4⟩
          rw [HSL.out]
          have HB4 : Hid (Below wr.heap.size wr w4) := HB3.out.trans (hb4.mono HB3.out.size)
          clear hb4 c1' c2'
          go_wp2_with fail
          refine (writeByte_any w2.heap.size w2.heap.size (Lib.byteCells out) l _ (builder_below HBD.out HB4.out) (by rw [Lib.byteCells_length]; omega) (by have := HB4.out.size; omega)).mono ?_
          rintro e w5 ⟨rfl, hbd5, hb5, hk5⟩
          have HQ5 : Hid (w5.heap[w2.heap.size + 1]? = some (.cells #[.slice (some ⟨b, off, none⟩) ss.length cap] 25 (0, 0))) := hk5 _ _ ((HB4.out.block _ (by omega)).trans HQ.out) (by simp) (by intro c fz; simp)
          have HP5 : Hid (w5.heap[w2.heap.size + 2]? = some (.cells #[.int .i64 p] 3 (0, 0))) := hk5 _ _ ((HB4.out.block _ hsz2).trans HPP.out) (by simp) (by intro c fz; simp)
          have HBD5 : Hid (Lib.IsBuilder 55 5 w2.heap.size w2.heap.size (Lib.byteCells (out ++ [UInt8.ofNat l])) w5) := by
            rw [byteCells_snoc _ _ hl8]
            exact hbd5
          have HB5 : Hid (Below w2.heap.size w2 w5) := (HB.out.trans (HB4.out.mono (by omega))).trans hb5
          have hq5 : w5.cell? ⟨w2.heap.size + 1, 0, none⟩ = some (.slice (some ⟨b, off, none⟩) ss.length cap) := by simp [World.cell?, HQ5.out]
          clear hbd5 hb5 hk5
          go_wp2_with fail
          refine (walk1_kept _ _ _ _ ss p l (HS.out.below (HB2.out.trans (HB5.out.mono HB2.out.size))) HO.out hq5 HP5.out hpl hl8).mono ?_
          rintro e w6 ⟨rfl, hp6, hk6, hb6⟩
          rw [HGT.out] at hp6 ⊢
          have hlt5 : w2.heap.size + 1 < w5.heap.size := (Array.getElem?_eq_some_iff.1 HQ5.out).1
          have HQ6 : Hid (w6.heap[w2.heap.size + 1]? = some (.cells #[.slice (some ⟨b, off, none⟩) ss.length cap] 25 (0, 0))) := (hk6 _ hlt5 (by omega)).trans HQ5.out
          have HBD6 : Hid (Lib.IsBuilder 55 5 w2.heap.size w2.heap.size (Lib.byteCells (out ++ [UInt8.ofNat l])) w6) := builder_kept HBD5.out _ hk6 (by omega) (by intro c fz hh; rw [HP5.out] at hh; simp at hh)
          have HP6 : Hid (w6.heap[w2.heap.size + 2]? = some (.cells #[.int .i64 t] 3 (0, 0))) := hp6
          have HB6 : Hid (Below w2.heap.size w2 w6) := HB5.out.trans (hb6.mono (by omega))
          clear hp6 hk6 hb6 hq5
          go_wp2
          go_roundw
          case rel =>
            refine ⟨t, f, r - ah, out ++ [UInt8.ofNat l], rfl, rfl, htl, by omega, by simp; omega, by omega, by have := HL2.out; omega, hs3, ?_, HBD6.out, HQ6.out, HP6.out, HB6.out⟩
            rw [← HWD.out, HST.out, HAH.out]
            simp
          case measure => simp [intOf]; omega
end Go.Proofs.Ytlpcmikljhoabaa
