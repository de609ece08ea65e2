/-
  MachinePut of both.
-/
import Derived.Test.YtbkjbkdmanaohaaGW422
import Derived.Test.YtbkjbkdmanaohaaGW54
import Derived.Test.YtbkjbkdmanaohaaW53
import Derived.Test.YtbkjbkdmanaohaaW80
import Derived.Test.YtbkjbkdmanaohaaShelf
namespace Go.Proofs.Ytbkjbkdmanaohaa
open Go.RowKit
set_option linter.unusedVariables false
theorem builder_below423 {T e : TypeId} {B b : Nat} {bs : List Value} {w w' : World} (h : Lib.IsBuilder T e B b bs w) (hb : Below w.heap.size w w') : Lib.IsBuilder T e B b bs w' := by
  have key : ∀ p, Lib.BuilderAt T e B b p bs w → Lib.BuilderAt T e B b p bs w' := by
    rintro p ⟨hB, v, hbk, hown, hne⟩
    have hlt : b < w.heap.size := (Array.getElem?_eq_some_iff.1 hbk).1
    refine ⟨hB, v, (hb.block b hlt).trans hbk, ⟨hown.1, ?_⟩, hne⟩
    rcases hown.2 with h2 | ⟨g, cap, cur, hv, hg, hh, r⟩
    · exact .inl h2
    · have hg2 : g < w.heap.size := (Array.getElem?_eq_some_iff.1 hh).1
      exact .inr ⟨g, cap, cur, hv, hg, (hb.block g hg2).trans hh, r⟩
  exact h.imp (key _) (key _)
theorem byteCells_app423 (a b : List UInt8) : Lib.byteCells (a ++ b) = Lib.byteCells a ++ Lib.byteCells b := by simp [Lib.byteCells]
theorem str_bs423 (l : List UInt8) : Lib.strCells (bsT l) = Lib.byteCells l := by
  show Lib.byteCells (bsT l).data.toList = _
  simp [bsT]
set_option maxRecDepth 100000 in
set_option maxHeartbeats 4000000 in
theorem implMachinePut_any (w : World) (v : Value) (ss : List Sta) (h : StatesAt w v ss) :
    Calls Try.prog 24 #[v] w fun e w' => e = .returned (.string (mputT ss)) ∧ Below w.heap.size w w' := by
  obtain ⟨sa, cap, rfl, hc, hm⟩ := h.form
  have HS : Hid (StatesAt w (.slice sa ss.length cap) ss) := h
  clear h
  cases hmt : machT ss with
  | false =>
    have HF : Hid (mputT ss = ⟨#[]⟩) := by show _ = _; unfold mputT; rw [hmt]; rfl
    go_enter Try.func24, Try.ntmps24
    go_wp2_with fail
    refine (implMachineOk_any _ _ ss HS.out).mono ?_
    rintro e w1 ⟨rfl, hb1⟩
    rw [hmt]
    have HB1 : Hid (Below w.heap.size w w1) := hb1
    clear hb1
    go_wp2
    go_ret
    rw [HF.out]
    exact ⟨rfl, HB1.out⟩
  | true =>
    obtain ⟨hok, h1, h4⟩ := machT_parts hmt
    have HO : Hid (stasOk ss = true) := hok
    have HLEN : Hid (∀ (i : Nat) (st : Sta), ss[i]? = some st → st.es.length ≤ 26) := fun i st hs => eds_len (staOk_es (stasOk_at hok hs))
    have HP : Hid (mputT ss = if (machL ss).length ≤ 4000 then bsT (machL ss) else ⟨#[]⟩) := by show _ = _; unfold mputT; rw [hmt, if_pos rfl]
    have HM : Hid (machL ss = nbL ss.length ++ stsL ss ss.length) := rfl
    obtain ⟨NL, hNL⟩ : ∃ x, nbL ss.length = x := ⟨_, rfl⟩
    have HNL : Hid (nbL ss.length = NL) := hNL
    have hNLs : NL.length ≤ 2 := by rw [← hNL]; exact nbL_len _
    have hNz : (bsT NL).size ≤ 2 := by rw [bsT_size]; exact hNLs
    rw [hNL] at HM
    clear hok hNL
    unfold maxLen at hm
    go_enter Try.func24, Try.ntmps24
    go_wp2_with fail
    refine (implMachineOk_any _ _ ss HS.out).mono ?_
    rintro e w1 ⟨rfl, hb1⟩
    rw [hmt]
    have HB1 : Hid (Below w.heap.size w w1) := hb1
    clear hb1
    go_wp2_with fail
    have HBD0 : Hid (Lib.IsBuilder 63 5 w1.heap.size w1.heap.size [] (w1.alloc (.cells #[.pointer none, .slice none 0 0] 63))) := .inl ⟨Nat.le_refl _, .slice none 0 0, Go.Deep.blk_alloc_new _ _, World.ownsRow_nil .., by simp [Value.ownBlock]⟩
    have HX1 : Hid (Below w1.heap.size w1 (w1.alloc (.cells #[.pointer none, .slice none 0 0] 63))) := (Below.refl _ _).alloc (Nat.le_refl _) _
    refine (numberBytes_any ss.length (by omega) _).mono ?_
    rintro e w2 ⟨rfl, hb2⟩
    rw [HNL.out]
    have HB2 : Hid (Below w1.heap.size w1 w2) := HX1.out.trans (hb2.mono HX1.out.size)
    have HBD2 := builder_below423 HBD0.out hb2
    clear hb2
    go_wp2_with fail
    refine (writeString_any w1.heap.size w1.heap.size _ (bsT NL) _ HBD2 (by simp) (by omega) HB2.out.size).mono ?_
    rintro e w3 ⟨⟨v3, rfl⟩, hbd3, hb3, _⟩
    have HB3 : Hid (Below w1.heap.size w1 w3) := HB2.out.trans hb3
    have HBD3 : Hid (Lib.IsBuilder 63 5 w1.heap.size w1.heap.size (Lib.byteCells NL) w3) := by rw [List.nil_append, str_bs423] at hbd3; exact hbd3
    clear hbd3 hb3 HBD2
    go_wp2_with fail
    go_loopw [15] (fun i wr => ∃ (k : Nat), k ≤ ss.length ∧ i = .int .i64 k ∧ Lib.IsBuilder 63 5 w1.heap.size w1.heap.size (Lib.byteCells (NL ++ stsL ss k)) wr ∧ Below w1.heap.size w1 wr) (fun i _ => ss.length - (intOf i).toNat)
    case atStart => exact ⟨0, Nat.zero_le _, rfl, by rw [show stsL ss 0 = [] from rfl, List.append_nil]; exact HBD3.out, HB3.out⟩
    case round =>
      obtain ⟨k, hk, rfl, hbd, hb⟩ := hrel
      have HB : Hid (Below w1.heap.size w1 wr) := hb
      have HBD : Hid (Lib.IsBuilder 63 5 w1.heap.size w1.heap.size (Lib.byteCells (NL ++ stsL ss k)) wr) := hbd
      have HBw : Hid (Below w.heap.size w wr) := HB1.out.trans (hb.mono HB1.out.size)
      have hsl := stsL_len HLEN.out k
      have hbl : (NL ++ stsL ss k).length ≤ 33000 := by rw [List.length_append]; omega
      clear hb hbd
      by_cases hlt : k < ss.length
      · obtain ⟨b1, off1, cap1, st, ev, hv, _, _, hbl1, hst, c1, c2, hev⟩ := (HS.out.below HBw.out).at hlt
        cases hv
        have HED : Hid (edsOk (k + 1) ss.length st.es = true) := staOk_es (stasOk_at HO.out hst)
        obtain ⟨ae, cape, hve, _, _⟩ := hev.form
        obtain ⟨EL, hEL⟩ : ∃ x, st.es.length = x := ⟨_, rfl⟩
        rw [hEL] at hve
        subst hve
        have HE : Hid (EdgesIn 0 wr (.slice ae EL cape) st.es) := hev
        have HNX : Hid (stsL ss (k + 1) = stsL ss k ++ stL k st) := stsL_succ hst
        have hss : (stL k st).length ≤ 80 := stL_len k st (HLEN.out k st hst)
        have hss2 : (bsT (stL k st)).size ≤ 80 := by rw [bsT_size]; exact hss
        have HCL : Hid (∀ w', EdgesIn 0 w' (.slice ae EL cape) st.es → Calls Try.prog 45 #[.agg #[.bool st.ends, .slice ae EL cape], .int .i64 k] w' fun e w'' => e = .returned (.string (bsT (stL k st))) ∧ Below w'.heap.size w' w'') := fun w' he => stateBytes_any w' st (.slice ae EL cape) k ss.length he HED.out h4
        obtain ⟨ST, hST⟩ : ∃ x, stL k st = x := ⟨_, rfl⟩
        rw [hST] at HNX hss hss2 HCL
        clear hst hev hST hEL
        go_wp2_with fail
        have HXr : Hid (Below wr.heap.size wr (wr.alloc (.cells #[.bool st.ends, .slice ae EL cape] 49))) := (Below.refl _ _).alloc (Nat.le_refl _) _
        refine (HCL.out _ (HE.out.below HXr.out)).mono ?_
        rintro e w4 ⟨rfl, hb4⟩
        have HQ4 : Hid (Below wr.heap.size wr w4) := HXr.out.trans (hb4.mono HXr.out.size)
        clear hb4 c1 c2
        go_wp2_with fail
        refine (writeString_any w1.heap.size w1.heap.size _ (bsT ST) _ (builder_below423 HBD.out HQ4.out) (by rw [Lib.byteCells_length]; omega) (by omega) (Nat.le_trans HB.out.size HQ4.out.size)).mono ?_
        rintro e w5 ⟨⟨v5, rfl⟩, hbd5, hb5, _⟩
        have HB5 : Hid (Below w1.heap.size w1 w5) := (HB.out.trans (HQ4.out.mono HB.out.size)).trans hb5
        have HBD5 : Hid (Lib.IsBuilder 63 5 w1.heap.size w1.heap.size (Lib.byteCells (NL ++ stsL ss (k + 1))) w5) := by
          rw [HNX.out, ← List.append_assoc, byteCells_app423 (NL ++ stsL ss k), ← str_bs423 ST]
          exact hbd5
        clear hbd5 hb5
        go_wp2
        go_roundw
        case rel => exact ⟨k + 1, by omega, by go_num, HBD5.out, HB5.out⟩
        case measure => simp [intOf]; omega
      · have hke : k = ss.length := by omega
        have HBF : Hid (Lib.IsBuilder 63 5 w1.heap.size w1.heap.size (Lib.byteCells (machL ss)) wr) := by rw [HM.out, ← hke]; exact HBD.out
        have hml : (machL ss).length ≤ 33000 := by rw [HM.out, ← hke]; exact hbl
        have hbcl : (Lib.byteCells (machL ss)).length = (machL ss).length := Lib.byteCells_length _
        subst hke
        clear hbl hsl
        go_wp2_with fail
        refine (Try.Builder_Len _ _ (Lib.byteCells (machL ss)) _ HBF.out).mono ?_
        rintro e w6 ⟨rfl, he6⟩
        rw [he6, hbcl]
        clear he6
        by_cases hbig : (4000 : Int) < ((machL ss).length : Int)
        · have HF : Hid (mputT ss = ⟨#[]⟩) := by show _ = _; rw [HP.out, if_neg (by omega)]
          go_wp2
          go_ret
          rw [HF.out]
          exact ⟨rfl, HBw.out⟩
        · have HF : Hid (mputT ss = bsT (machL ss)) := by show _ = _; rw [HP.out, if_pos (by omega)]
          go_wp2_with fail
          refine (Try.Builder_String_any _ _ (machL ss) _ HBF.out HB.out.size).mono ?_
          rintro e w7 ⟨rfl, hb7⟩
          have HB7 : Hid (Below w.heap.size w w7) := HB1.out.trans ((HB.out.trans hb7).mono HB1.out.size)
          clear hb7
          go_wp2
          go_ret
          rw [HF.out]
          exact ⟨rfl, HB7.out⟩
set_option maxHeartbeats 1000000 in
theorem specMachinePut_any (w : World) (v : Value) (ss : List Sta) (h : StatesAt w v ss) :
    Calls Try.prog 23 #[v] w fun e w' => e = .returned (.string (mputT ss)) ∧ Below w.heap.size w w' := by
  obtain ⟨sa, cap, rfl, hc, hm⟩ := h.form
  have HS : Hid (StatesAt w (.slice sa ss.length cap) ss) := h
  clear h
  cases hmt : machT ss with
  | false =>
    have HF : Hid (mputT ss = ⟨#[]⟩) := by show _ = _; unfold mputT; rw [hmt]; rfl
    go_enter Try.func23, Try.ntmps23
    go_wp2_with fail
    refine (specMachineOk_any _ _ ss HS.out).mono ?_
    rintro e w1 ⟨rfl, hb1⟩
    rw [hmt]
    have HB1 : Hid (Below w.heap.size w w1) := hb1
    clear hb1
    go_wp2
    go_ret
    rw [HF.out]
    exact ⟨rfl, HB1.out⟩
  | true =>
    obtain ⟨hok, h1, h4⟩ := machT_parts hmt
    have HO : Hid (stasOk ss = true) := hok
    have HP : Hid (mputT ss = if (machL ss).length ≤ 4000 then bsT (machL ss) else ⟨#[]⟩) := by show _ = _; unfold mputT; rw [hmt, if_pos rfl]
    have hsz : (bsT (machL ss)).size = (machL ss).length := bsT_size _
    have hml : (machL ss).length ≤ 33000 := by
      have h9 := stsL_len (fun i st hs => eds_len (staOk_es (stasOk_at hok hs))) ss.length
      have h8 := nbL_len ss.length
      unfold machL
      rw [List.length_append]; omega
    clear hok
    go_enter Try.func23, Try.ntmps23
    go_wp2_with fail
    refine (specMachineOk_any _ _ ss HS.out).mono ?_
    rintro e w1 ⟨rfl, hb1⟩
    rw [hmt]
    have HB1 : Hid (Below w.heap.size w w1) := hb1
    clear hb1
    go_wp2_with fail
    refine (l12Put_any _ _ ss (HS.out.below HB1.out) HO.out h4).mono ?_
    rintro e w2 ⟨rfl, hb2⟩
    have HB2 : Hid (Below w.heap.size w w2) := HB1.out.trans (hb2.mono HB1.out.size)
    clear hb2
    by_cases hbig : (4000 : Int) < ((machL ss).length : Int)
    · have HF : Hid (mputT ss = ⟨#[]⟩) := by show _ = _; rw [HP.out, if_neg (by omega)]
      have hq : (4000 : Int) < ((bsT (machL ss)).size : Int) := by omega
      go_wp2
      go_ret
      rw [HF.out]
      exact ⟨rfl, HB2.out⟩
    · have HF : Hid (mputT ss = bsT (machL ss)) := by show _ = _; rw [HP.out, if_pos (by omega)]
      have hq : ¬ (4000 : Int) < ((bsT (machL ss)).size : Int) := by omega
      go_wp2
      go_ret
      rw [HF.out]
      exact ⟨rfl, HB2.out⟩
set_option maxHeartbeats 1000000 in
theorem fnExactMachinePut_walk (v : Value) (ss : List Sta) (w : World) (h : StatesAt w v ss) :
    Calls Try.prog 7 #[v] w fun e w' => e = .returned (.bool true) ∧ Below w.heap.size w w' := by
  obtain ⟨a, cap, rfl, hc, hm⟩ := h.form
  have HS : Hid (StatesAt w (.slice a ss.length cap) ss) := h
  clear h
  go_enter Try.func7, Try.ntmps7
  go_wp2_with fail
  refine (szStateS_any _ _ ss _ HS.out (by omega) (by omega)).mono ?_
  rintro e w1 ⟨⟨r, rfl, hr⟩, hb1⟩
  have HB1 : Hid (Below w.heap.size w w1) := hb1
  have HR : Hid (0 ≤ r → SmallS ss) := hr
  clear hb1 hr
  by_cases hr : r < 0
  · go_wp2
    go_ret
    exact ⟨rfl, HB1.out⟩
  · have HN : Hid (SmallS ss) := HR.out (by omega)
    go_wp2_with fail
    refine (toStateS_any _ _ ss (HS.out.below HB1.out) HN.out).mono ?_
    rintro e w2 ⟨v2, rfl, h2, hb2⟩
    obtain ⟨a2, cap2, rfl, hc2, hm2⟩ := h2.form
    have HB2 : Hid (Below w.heap.size w w2) := HB1.out.trans (hb2.mono HB1.out.size)
    have H2 : Hid (StatesAt w2 (.slice a2 ss.length cap2) ss) := h2
    clear hb2 h2
    go_wp2_with fail
    refine (specMachinePut_any _ _ ss H2.out).mono ?_
    rintro e w3 ⟨rfl, hb3⟩
    have HB3 : Hid (Below w.heap.size w w3) := HB2.out.trans (hb3.mono HB2.out.size)
    clear hb3
    go_wp2_with fail
    refine (toStateS_any _ _ ss (HS.out.below HB3.out) HN.out).mono ?_
    rintro e w4 ⟨v4, rfl, h4, hb4⟩
    obtain ⟨a4, cap4, rfl, hc4, hm4⟩ := h4.form
    have HB4 : Hid (Below w.heap.size w w4) := HB3.out.trans (hb4.mono HB3.out.size)
    have H4 : Hid (StatesAt w4 (.slice a4 ss.length cap4) ss) := h4
    clear hb4 h4
    go_wp2_with fail
    refine (implMachinePut_any _ _ ss H4.out).mono ?_
    rintro e w5 ⟨rfl, hb5⟩
    have HB5 : Hid (Below w.heap.size w w5) := HB4.out.trans (hb5.mono HB4.out.size)
    have H5 : Hid (StatesAt w5 (.slice a4 ss.length cap4) ss) := H4.out.below hb5
    clear hb5
    go_wp2_with fail
    refine (toStateS_any _ _ ss (HS.out.below HB5.out) HN.out).mono ?_
    rintro e w6 ⟨v6, rfl, h6, hb6⟩
    obtain ⟨a6, cap6, rfl, hc6, hm6⟩ := h6.form
    have HB6 : Hid (Below w.heap.size w w6) := HB5.out.trans (hb6.mono HB5.out.size)
    have H6 : Hid (StatesAt w6 (.slice a6 ss.length cap6) ss) := h6
    have H6' : Hid (StatesAt w6 (.slice a4 ss.length cap4) ss) := H5.out.below hb6
    clear hb6 h6
    go_wp2_with fail
    refine (eqStateS_same _ _ _ ss H6'.out H6.out).mono ?_
    rintro e w7 ⟨rfl, hb7⟩
    have HB7 : Hid (Below w.heap.size w w7) := HB6.out.trans (hb7.mono HB6.out.size)
    clear hb7
    go_wp2_with fail
    go_ret
    exact ⟨rfl, HB7.out⟩
end Go.Proofs.Ytbkjbkdmanaohaa
