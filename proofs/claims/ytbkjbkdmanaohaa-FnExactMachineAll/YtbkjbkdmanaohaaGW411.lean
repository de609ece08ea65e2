/-
  impl.textsFrom.
-/
import Derived.Test.YtbkjbkdmanaohaaGW54
import Derived.Test.YtbkjbkdmanaohaaGM47
import Derived.Test.YtbkjbkdmanaohaaW129
import Derived.Test.YtbkjbkdmanaohaaW188
import Derived.Laws.BytesArg
namespace Go.Proofs.Ytbkjbkdmanaohaa
open Go.RowKit
set_option linter.unusedVariables false
theorem rune_text (c : Int) (h1 : 97 ≤ c) (h2 : c ≤ 122) (w : World) : (convert 21 9 (.int .i32 c)).run Try.prog w = .ok (.string (letB c)) w := by
  have h : c = 97 ∨ c = 98 ∨ c = 99 ∨ c = 100 ∨ c = 101 ∨ c = 102 ∨ c = 103 ∨ c = 104 ∨ c = 105 ∨ c = 106 ∨ c = 107 ∨ c = 108 ∨ c = 109 ∨ c = 110 ∨ c = 111 ∨ c = 112 ∨ c = 113 ∨ c = 114 ∨ c = 115 ∨ c = 116 ∨ c = 117 ∨ c = 118 ∨ c = 119 ∨ c = 120 ∨ c = 121 ∨ c = 122 := by omega
  rcases h with rfl | rfl | rfl | rfl | rfl | rfl | rfl | rfl | rfl | rfl | rfl | rfl | rfl | rfl | rfl | rfl | rfl | rfl | rfl | rfl | rfl | rfl | rfl | rfl | rfl | rfl <;> first | (show _ = _; kernel_rfl) | (show _ = _; rfl) | trace_state
theorem own_news {w : World} {lo : Nat} {e : TypeId} {v : Value} {n : Nat} {xs : List Value} (h : w.ownsRow lo e 1 v n xs) : (v = .slice none 0 0 ∧ n = 0 ∧ xs = []) ∨ ∃ g cap, v = .slice (some ⟨g, 0, none⟩) n cap ∧ ∀ j u, xs[j]? = some u → w.cell? ((⟨g, 0, none⟩ : Addr).add j) = some u := by
  rcases h.2 with ⟨h1, h2⟩ | ⟨g, cap, cur, hv, _⟩
  · refine .inl ⟨h1, h2, List.length_eq_zero_iff.1 (by rw [h.1, h2])⟩
  · exact .inr ⟨g, cap, hv, World.ownsRow.cells h (by rw [hv]; rfl)⟩
theorem own_cap {w : World} {lo : Nat} {e : TypeId} {s n c : Nat} {a : Option Addr} {xs : List Value} (h : w.ownsRow lo e s (.slice a n c) n xs) : n ≤ c := by
  rcases h.2 with ⟨h1, h2⟩ | ⟨g, cap, cur, hv, _, _, h1, _⟩
  · omega
  · cases hv; exact h1
theorem texts_one410 (xs : List ByteArray) : ∀ u ∈ texts xs, u.oneCell' = true := by
  intro u hu
  simp only [texts, List.mem_map] at hu
  obtain ⟨a, _, rfl⟩ := hu
  rfl
theorem Try.info_str410 : (Try.prog.info? 9).map (fun i => (i.zero, i.size, i.bytes)) = some (some (.string ⟨#[]⟩), 1, 16) := by kernel_rfl
set_option maxRecDepth 100000 in
set_option maxHeartbeats 4000000 in
theorem textsFrom_any (ss : List Sta) (hok : stasOk ss = true) : ∀ (d p : Nat), ss.length - p = d → p < ss.length → ∀ (w : World) (v : Value) (ah : ByteArray) (most : Nat), StatesAt w v ss → ah.size + d ≤ 1000000000000 → most ≤ 1000 →
    Calls Try.prog 40 #[v, .int .i64 p, .string ah, .int .i64 most] w fun e w' => ∃ v', e = .returned v' ∧ w'.ownsRow w.heap.size 9 1 v' ((txT ss p ah).take most).length (texts ((txT ss p ah).take most)) ∧ Below w.heap.size w w' := by
  intro d
  induction d using Nat.strongRecOn with
  | _ d ih =>
    intro p hd hp w v ah most h hah hmost
    obtain ⟨i3, hi3, hz3, hs3, hb3⟩ := info_parts Try.info_str410
    have HIH : Hid _ := ih
    clear ih
    have HS : Hid (StatesAt w v ss) := h
    have HO : Hid (stasOk ss = true) := hok
    clear h
    obtain ⟨b', off, cap', st, ev, hv, hsc, hsm, hbl, hst, c1, c2, hev⟩ := HS.out.at hp
    subst hv
    have HST : Hid (ss[p]? = some st) := hst
    have HE : Hid (EdgesIn 0 w ev st.es) := hev
    have HED : Hid (edsOk (p + 1) ss.length st.es = true) := staOk_es (stasOk_at hok hst)
    have HLEN : Hid (st.es.length ≤ 26) := eds_len HED.out
    obtain ⟨ae, cape, hve, hce, hme⟩ := hev.form
    subst hve
    have HSL : Hid (ss.length - p = d) := hd
    have hsm1 := HS.out.form
    unfold maxLen at hsm hme
    clear hst hev hok hd hsm1
    have hpl : (p : Int) < ss.length := by omega
    have hp0 : (0 : Int) ≤ (p : Int) := by omega
    cases hends : (st.ends && decide (0 < most)) with
    | true =>
      have hE : st.ends = true := by revert hends; cases st.ends <;> simp
      have hM : 0 < most := by rw [hE] at hends; simpa using hends
      have HL0 : Hid ((txTo ss st ah 0).take most = [ah]) := by show _ = _; rw [txTo_zero, hE, if_pos rfl, List.take_of_length_le (by simp; omega)]
      have hM' : (0 : Int) < (most : Int) := by omega
      rw [hE] at c1
      clear hends
      go_enter Try.func40, Try.ntmps40
      go_wp2_with (at_builtin; refine wpList_append_own _ rfl _ _ 29 rfl w.heap.size 9 i3 (.string ⟨#[]⟩) 1 16 Try.underlying29 hi3 hz3 hs3 hb3 rfl (by decide) (.slice none 0 0) 0 [] rfl (World.ownsRow_nil _ _ _ _) ⟨w.heap.size, 0, none⟩ 1 1 [.string ah] rfl rfl (cell_one_new _ _ _) (one_text ah) (by unfold maxLen; omega) (by omega) (by simp) ?_; intro v1 w1 hown hgrow hnil; have HB1 : Hid (Below w.heap.size w w1) := ((Below.refl _ _).alloc (Nat.le_refl _) _).trans (below_of_grown hgrow (fun k hk => by cases hk) (by simp)); obtain ⟨a1, cc1, rfl⟩ := owns_form hown; have HO1 : Hid (w1.ownsRow w.heap.size 9 1 (.slice a1 1 cc1) 1 [.string ah]) := hown; have x1 : w1.cell? ⟨b', off + p * 2 + 1, none⟩ = some (.slice ae st.es.length cape) := (HB1.out.cell (p := ⟨b', off + p * 2 + 1, none⟩) hbl).trans c2; clear hown hgrow hnil)
      go_loopw [9, 31] (fun x i wr => ∃ (k : Nat) (a9 : Option Addr) (c9 : Nat), k ≤ st.es.length ∧ i = .int .i64 k ∧ x = .slice a9 ((txTo ss st ah k).take most).length c9 ∧ wr.ownsRow w.heap.size 9 1 (.slice a9 ((txTo ss st ah k).take most).length c9) ((txTo ss st ah k).take most).length (texts ((txTo ss st ah k).take most)) ∧ Below w.heap.size w wr) (fun _ i _ => st.es.length - (intOf i).toNat)
      case atStart => exact ⟨0, a1, cc1, Nat.zero_le _, rfl, by rw [HL0.out]; rfl, by rw [HL0.out]; exact HO1.out, HB1.out⟩
      case round =>
        obtain ⟨k, a9, c9, hk, rfl, rfl, ho, hb⟩ := hrel
        have HB : Hid (Below w.heap.size w wr) := hb
        obtain ⟨Lk, hLk⟩ : ∃ X, (txTo ss st ah k).take most = X := ⟨_, rfl⟩
        have HLK : Hid ((txTo ss st ah k).take most = Lk) := hLk
        rw [hLk] at ho ⊢
        have HO9 : Hid (wr.ownsRow w.heap.size 9 1 (.slice a9 Lk.length c9) Lk.length (texts Lk)) := ho
        have hLm : Lk.length ≤ most := by rw [← hLk, List.length_take]; omega
        clear ho hb hLk
        by_cases hlt : k < st.es.length
        · obtain ⟨b2, off2, cap2, ed, hv2, _, _, hbl2, hed, d1, d2⟩ := (HE.out.below HB.out).at hlt
          cases hv2
          have HX : Hid (st.es[k]? = some ed) := hed
          have hb4 := edsOk_at HED.out hed
          obtain ⟨l, t⟩ := ed
          simp only at d1 d2 hb4
          obtain ⟨q, rfl⟩ : ∃ q : Nat, t = (q : Int) := ⟨t.toNat, by omega⟩
          have hq1 : p + 1 ≤ q := by omega
          have hq2 : q < ss.length := by omega
          have hlt' : (k : Int) < st.es.length := by omega
          clear hed
          by_cases hfull : Lk.length = most
          · have HF : Hid (Lk = (txT ss p ah).take most) := by
              show _ = _
              have := take_full (n := most) HO.out HST.out ah (k := k) (by rw [HLK.out]; exact hfull)
              rw [HLK.out] at this; exact this
            have hfi : ((Lk.length : Int) == (most : Int)) = true := by simp; omega
            clear hfull
            go_wp2
            go_ret
            rw [← HF.out]
            exact ⟨_, rfl, HO9.out.alloc _, HB.out.alloc HB.out.size _⟩
          · have hfi : ((Lk.length : Int) == (most : Int)) = false := by simp; omega
            obtain ⟨m2, hm2⟩ : ∃ m2 : Nat, most - Lk.length = m2 := ⟨_, rfl⟩
            have hmi : (most : Int) - (Lk.length : Int) = (m2 : Int) := by omega
            have hm3 : m2 ≤ 1000 := by omega
            have HL2 : Hid ((txTo ss st ah (k + 1)).take most = Lk ++ (txT ss q (ah ++ letB l)).take m2) := by
              show _ = _
              rw [take_next HX.out, HLK.out, hm2]; rfl
            obtain ⟨Sub, hSub⟩ : ∃ X, (txT ss q (ah ++ letB l)).take m2 = X := ⟨_, rfl⟩
            have hsl : Sub.length ≤ m2 := by rw [← hSub, List.length_take]; omega
            have HC : Hid (∀ w', StatesAt w' (.slice (some ⟨b', off, none⟩) ss.length cap') ss → Calls Try.prog 40 #[.slice (some ⟨b', off, none⟩) ss.length cap', .int .i64 (q : Int), .string (ah ++ letB l), .int .i64 (m2 : Int)] w' fun e w'' => ∃ v', e = .returned v' ∧ w''.ownsRow w'.heap.size 9 1 v' Sub.length (texts Sub) ∧ Below w'.heap.size w' w'') := fun w' hs' => by
              have := HIH.out (ss.length - q) (by have := HSL.out; omega) q rfl hq2 w' _ (ah ++ letB l) m2 hs' (by rw [ByteArray.size_append, letB_size]; have := HSL.out; omega) hm3
              rw [hSub] at this; exact this
            rw [hSub] at HL2
            clear hSub hm2 hfull
            have hrt := rune_text l hb4.1 hb4.2.1
            have h32 : IntKind.i32.wrap l = l := by simp only [IntKind.wrap, IntKind.signed, IntKind.bits]; simp; omega
            have hals : (letB l).size = 1 := letB_size l
            obtain ⟨LB, hLB⟩ : ∃ X, letB l = X := ⟨_, rfl⟩
            rw [hLB] at hrt HC hals
            clear hLB
            obtain ⟨AH, hAH⟩ : ∃ X, ah ++ LB = X := ⟨_, rfl⟩
            rw [hAH] at HC
            have HAH : Hid (ah ++ LB = AH) := hAH
            go_wp2_with fail
            refine (HC.out _ (HS.out.below (HB.out.alloc HB.out.size _))).mono ?_
            rintro e w5 ⟨v5, rfl, ho5, hb5⟩
            have hb5' : Below wr.heap.size wr w5 := Below.trans ((Below.refl _ _).alloc (Nat.le_refl _) _) (hb5.mono (by simp))
            have HO5 : Hid (w5.ownsRow w.heap.size 9 1 (.slice a9 Lk.length c9) Lk.length (texts Lk)) := owns_below HO9.out hb5'
            have HB5 : Hid (Below w.heap.size w w5) := HB.out.trans (hb5'.mono HB.out.size)
            rcases own_news ho5 with ⟨rfl, hn0, -⟩ | ⟨g5, cp5, rfl, hnews⟩
            · have HS0 : Hid (Sub = []) := List.length_eq_zero_iff.1 hn0
              clear ho5 hb5 hb5'
              have HL3 : Hid ((txTo ss st ah (k + 1)).take most = Lk) := by show _ = _; rw [HL2.out, HS0.out, List.append_nil]
              have hcap : Lk.length ≤ c9 := own_cap HO5.out
              go_wp2_with (at_builtin; refine wpList_append_none _ rfl _ _ 29 rfl 9 i3 Try.underlying29 hi3 a9 Lk.length c9 rfl rfl hcap ?_)
              go_roundw
              case rel => exact ⟨k + 1, a9, c9, by omega, by go_num, by rw [HL3.out], by rw [HL3.out]; exact HO5.out, HB5.out⟩
              case measure => simp [intOf]; omega
            · have HN : Hid (∀ j u, (texts Sub)[j]? = some u → w5.cell? ((⟨g5, 0, none⟩ : Addr).add j) = some u) := hnews
              clear ho5 hb5 hb5' hnews
              go_wp2_with (at_builtin; refine wpList_append_own _ rfl _ _ 29 rfl w.heap.size 9 i3 (.string ⟨#[]⟩) 1 16 Try.underlying29 hi3 hz3 hs3 hb3 rfl (by decide) (.slice a9 Lk.length c9) Lk.length (texts Lk) rfl HO5.out ⟨g5, 0, none⟩ Sub.length cp5 (texts Sub) rfl (by simp [texts]) HN.out (texts_one410 Sub) (by unfold maxLen; omega) (by omega) HB5.out.size ?_; intro v6 w6 hown hgrow hnil; have HB6 : Hid (Below w.heap.size w w6) := HB5.out.trans (below_of_grown hgrow (fun z hz => own_block_ge HO5.out z hz) HB5.out.size); obtain ⟨a6, c6, rfl⟩ := owns_form hown; have HO6 : Hid (w6.ownsRow w.heap.size 9 1 (.slice a6 (Lk.length + Sub.length) c6) (Lk.length + Sub.length) (texts Lk ++ texts Sub)) := hown; clear hown hgrow hnil)
              go_roundw
              case rel => exact ⟨k + 1, a6, c6, by omega, by go_num, by rw [HL2.out, List.length_append], by rw [HL2.out, List.length_append, texts_append]; exact HO6.out, HB6.out⟩
              case measure => simp [intOf]; omega
        · have HF : Hid (Lk = (txT ss p ah).take most) := by
            show _ = _
            rw [← HLK.out, txTo_all HO.out HST.out ah (by omega)]
          go_wp2
          go_ret
          rw [← HF.out]
          exact ⟨_, rfl, HO9.out, HB.out⟩
    | false =>
      have HL0 : Hid ((txTo ss st ah 0).take most = []) := by
        show _ = _
        rw [txTo_zero]
        cases hE : st.ends with
        | false => simp
        | true => rw [hE] at hends; simp at hends; subst hends; simp
      cases hE : st.ends with
      | false =>
        rw [hE] at c1
        clear hends
        go_enter Try.func40, Try.ntmps40
        go_wp2_with fail
        go_loopw [9, 31] (fun x i wr => ∃ (k : Nat) (a9 : Option Addr) (c9 : Nat), k ≤ st.es.length ∧ i = .int .i64 k ∧ x = .slice a9 ((txTo ss st ah k).take most).length c9 ∧ wr.ownsRow w.heap.size 9 1 (.slice a9 ((txTo ss st ah k).take most).length c9) ((txTo ss st ah k).take most).length (texts ((txTo ss st ah k).take most)) ∧ Below w.heap.size w wr) (fun _ i _ => st.es.length - (intOf i).toNat)
        case atStart => exact ⟨0, none, 0, Nat.zero_le _, rfl, by rw [HL0.out]; rfl, by rw [HL0.out]; exact World.ownsRow_nil _ _ _ _, Below.refl _ _⟩
        case round =>
          obtain ⟨k, a9, c9, hk, rfl, rfl, ho, hb⟩ := hrel
          have HB : Hid (Below w.heap.size w wr) := hb
          obtain ⟨Lk, hLk⟩ : ∃ X, (txTo ss st ah k).take most = X := ⟨_, rfl⟩
          have HLK : Hid ((txTo ss st ah k).take most = Lk) := hLk
          rw [hLk] at ho ⊢
          have HO9 : Hid (wr.ownsRow w.heap.size 9 1 (.slice a9 Lk.length c9) Lk.length (texts Lk)) := ho
          have hLm : Lk.length ≤ most := by rw [← hLk, List.length_take]; omega
          clear ho hb hLk
          by_cases hlt : k < st.es.length
          · obtain ⟨b2, off2, cap2, ed, hv2, _, _, hbl2, hed, d1, d2⟩ := (HE.out.below HB.out).at hlt
            cases hv2
            have HX : Hid (st.es[k]? = some ed) := hed
            have hb4 := edsOk_at HED.out hed
            obtain ⟨l, t⟩ := ed
            simp only at d1 d2 hb4
            obtain ⟨q, rfl⟩ : ∃ q : Nat, t = (q : Int) := ⟨t.toNat, by omega⟩
            have hq1 : p + 1 ≤ q := by omega
            have hq2 : q < ss.length := by omega
            have hlt' : (k : Int) < st.es.length := by omega
            clear hed
            by_cases hfull : Lk.length = most
            · have HF : Hid (Lk = (txT ss p ah).take most) := by
                show _ = _
                have := take_full (n := most) HO.out HST.out ah (k := k) (by rw [HLK.out]; exact hfull)
                rw [HLK.out] at this; exact this
              have hfi : ((Lk.length : Int) == (most : Int)) = true := by simp; omega
              clear hfull
              go_wp2
              go_ret
              rw [← HF.out]
              exact ⟨_, rfl, HO9.out.alloc _, HB.out.alloc HB.out.size _⟩
            · have hfi : ((Lk.length : Int) == (most : Int)) = false := by simp; omega
              obtain ⟨m2, hm2⟩ : ∃ m2 : Nat, most - Lk.length = m2 := ⟨_, rfl⟩
              have hmi : (most : Int) - (Lk.length : Int) = (m2 : Int) := by omega
              have hm3 : m2 ≤ 1000 := by omega
              have HL2 : Hid ((txTo ss st ah (k + 1)).take most = Lk ++ (txT ss q (ah ++ letB l)).take m2) := by
                show _ = _
                rw [take_next HX.out, HLK.out, hm2]; rfl
              obtain ⟨Sub, hSub⟩ : ∃ X, (txT ss q (ah ++ letB l)).take m2 = X := ⟨_, rfl⟩
              have hsl : Sub.length ≤ m2 := by rw [← hSub, List.length_take]; omega
              have HC : Hid (∀ w', StatesAt w' (.slice (some ⟨b', off, none⟩) ss.length cap') ss → Calls Try.prog 40 #[.slice (some ⟨b', off, none⟩) ss.length cap', .int .i64 (q : Int), .string (ah ++ letB l), .int .i64 (m2 : Int)] w' fun e w'' => ∃ v', e = .returned v' ∧ w''.ownsRow w'.heap.size 9 1 v' Sub.length (texts Sub) ∧ Below w'.heap.size w' w'') := fun w' hs' => by
                have := HIH.out (ss.length - q) (by have := HSL.out; omega) q rfl hq2 w' _ (ah ++ letB l) m2 hs' (by rw [ByteArray.size_append, letB_size]; have := HSL.out; omega) hm3
                rw [hSub] at this; exact this
              rw [hSub] at HL2
              clear hSub hm2 hfull
              have hrt := rune_text l hb4.1 hb4.2.1
              have h32 : IntKind.i32.wrap l = l := by simp only [IntKind.wrap, IntKind.signed, IntKind.bits]; simp; omega
              have hals : (letB l).size = 1 := letB_size l
              obtain ⟨LB, hLB⟩ : ∃ X, letB l = X := ⟨_, rfl⟩
              rw [hLB] at hrt HC hals
              clear hLB
              obtain ⟨AH, hAH⟩ : ∃ X, ah ++ LB = X := ⟨_, rfl⟩
              rw [hAH] at HC
              have HAH : Hid (ah ++ LB = AH) := hAH
              go_wp2_with fail
              refine (HC.out _ (HS.out.below (HB.out.alloc HB.out.size _))).mono ?_
              rintro e w5 ⟨v5, rfl, ho5, hb5⟩
              have hb5' : Below wr.heap.size wr w5 := Below.trans ((Below.refl _ _).alloc (Nat.le_refl _) _) (hb5.mono (by simp))
              have HO5 : Hid (w5.ownsRow w.heap.size 9 1 (.slice a9 Lk.length c9) Lk.length (texts Lk)) := owns_below HO9.out hb5'
              have HB5 : Hid (Below w.heap.size w w5) := HB.out.trans (hb5'.mono HB.out.size)
              rcases own_news ho5 with ⟨rfl, hn0, -⟩ | ⟨g5, cp5, rfl, hnews⟩
              · have HS0 : Hid (Sub = []) := List.length_eq_zero_iff.1 hn0
                clear ho5 hb5 hb5'
                have HL3 : Hid ((txTo ss st ah (k + 1)).take most = Lk) := by show _ = _; rw [HL2.out, HS0.out, List.append_nil]
                have hcap : Lk.length ≤ c9 := own_cap HO5.out
                go_wp2_with (at_builtin; refine wpList_append_none _ rfl _ _ 29 rfl 9 i3 Try.underlying29 hi3 a9 Lk.length c9 rfl rfl hcap ?_)
                go_roundw
                case rel => exact ⟨k + 1, a9, c9, by omega, by go_num, by rw [HL3.out], by rw [HL3.out]; exact HO5.out, HB5.out⟩
                case measure => simp [intOf]; omega
              · have HN : Hid (∀ j u, (texts Sub)[j]? = some u → w5.cell? ((⟨g5, 0, none⟩ : Addr).add j) = some u) := hnews
                clear ho5 hb5 hb5' hnews
                go_wp2_with (at_builtin; refine wpList_append_own _ rfl _ _ 29 rfl w.heap.size 9 i3 (.string ⟨#[]⟩) 1 16 Try.underlying29 hi3 hz3 hs3 hb3 rfl (by decide) (.slice a9 Lk.length c9) Lk.length (texts Lk) rfl HO5.out ⟨g5, 0, none⟩ Sub.length cp5 (texts Sub) rfl (by simp [texts]) HN.out (texts_one410 Sub) (by unfold maxLen; omega) (by omega) HB5.out.size ?_; intro v6 w6 hown hgrow hnil; have HB6 : Hid (Below w.heap.size w w6) := HB5.out.trans (below_of_grown hgrow (fun z hz => own_block_ge HO5.out z hz) HB5.out.size); obtain ⟨a6, c6, rfl⟩ := owns_form hown; have HO6 : Hid (w6.ownsRow w.heap.size 9 1 (.slice a6 (Lk.length + Sub.length) c6) (Lk.length + Sub.length) (texts Lk ++ texts Sub)) := hown; clear hown hgrow hnil)
                go_roundw
                case rel => exact ⟨k + 1, a6, c6, by omega, by go_num, by rw [HL2.out, List.length_append], by rw [HL2.out, List.length_append, texts_append]; exact HO6.out, HB6.out⟩
                case measure => simp [intOf]; omega
          · have HF : Hid (Lk = (txT ss p ah).take most) := by
              show _ = _
              rw [← HLK.out, txTo_all HO.out HST.out ah (by omega)]
            go_wp2
            go_ret
            rw [← HF.out]
            exact ⟨_, rfl, HO9.out, HB.out⟩
      | true =>
        rw [hE] at c1
        have hM : most = 0 := by rw [hE] at hends; simpa using hends
        have hM' : ¬ (0 : Int) < (most : Int) := by omega
        clear hM
        clear hends
        go_enter Try.func40, Try.ntmps40
        go_wp2_with fail
        go_loopw [9, 31] (fun x i wr => ∃ (k : Nat) (a9 : Option Addr) (c9 : Nat), k ≤ st.es.length ∧ i = .int .i64 k ∧ x = .slice a9 ((txTo ss st ah k).take most).length c9 ∧ wr.ownsRow w.heap.size 9 1 (.slice a9 ((txTo ss st ah k).take most).length c9) ((txTo ss st ah k).take most).length (texts ((txTo ss st ah k).take most)) ∧ Below w.heap.size w wr) (fun _ i _ => st.es.length - (intOf i).toNat)
        case atStart => exact ⟨0, none, 0, Nat.zero_le _, rfl, by rw [HL0.out]; rfl, by rw [HL0.out]; exact World.ownsRow_nil _ _ _ _, Below.refl _ _⟩
        case round =>
          obtain ⟨k, a9, c9, hk, rfl, rfl, ho, hb⟩ := hrel
          have HB : Hid (Below w.heap.size w wr) := hb
          obtain ⟨Lk, hLk⟩ : ∃ X, (txTo ss st ah k).take most = X := ⟨_, rfl⟩
          have HLK : Hid ((txTo ss st ah k).take most = Lk) := hLk
          rw [hLk] at ho ⊢
          have HO9 : Hid (wr.ownsRow w.heap.size 9 1 (.slice a9 Lk.length c9) Lk.length (texts Lk)) := ho
          have hLm : Lk.length ≤ most := by rw [← hLk, List.length_take]; omega
          clear ho hb hLk
          by_cases hlt : k < st.es.length
          · obtain ⟨b2, off2, cap2, ed, hv2, _, _, hbl2, hed, d1, d2⟩ := (HE.out.below HB.out).at hlt
            cases hv2
            have HX : Hid (st.es[k]? = some ed) := hed
            have hb4 := edsOk_at HED.out hed
            obtain ⟨l, t⟩ := ed
            simp only at d1 d2 hb4
            obtain ⟨q, rfl⟩ : ∃ q : Nat, t = (q : Int) := ⟨t.toNat, by omega⟩
            have hq1 : p + 1 ≤ q := by omega
            have hq2 : q < ss.length := by omega
            have hlt' : (k : Int) < st.es.length := by omega
            clear hed
            by_cases hfull : Lk.length = most
            · have HF : Hid (Lk = (txT ss p ah).take most) := by
                show _ = _
                have := take_full (n := most) HO.out HST.out ah (k := k) (by rw [HLK.out]; exact hfull)
                rw [HLK.out] at this; exact this
              have hfi : ((Lk.length : Int) == (most : Int)) = true := by simp; omega
              clear hfull
              go_wp2
              go_ret
              rw [← HF.out]
              exact ⟨_, rfl, HO9.out.alloc _, HB.out.alloc HB.out.size _⟩
            · have hfi : ((Lk.length : Int) == (most : Int)) = false := by simp; omega
              obtain ⟨m2, hm2⟩ : ∃ m2 : Nat, most - Lk.length = m2 := ⟨_, rfl⟩
              have hmi : (most : Int) - (Lk.length : Int) = (m2 : Int) := by omega
              have hm3 : m2 ≤ 1000 := by omega
              have HL2 : Hid ((txTo ss st ah (k + 1)).take most = Lk ++ (txT ss q (ah ++ letB l)).take m2) := by
                show _ = _
                rw [take_next HX.out, HLK.out, hm2]; rfl
              obtain ⟨Sub, hSub⟩ : ∃ X, (txT ss q (ah ++ letB l)).take m2 = X := ⟨_, rfl⟩
              have hsl : Sub.length ≤ m2 := by rw [← hSub, List.length_take]; omega
              have HC : Hid (∀ w', StatesAt w' (.slice (some ⟨b', off, none⟩) ss.length cap') ss → Calls Try.prog 40 #[.slice (some ⟨b', off, none⟩) ss.length cap', .int .i64 (q : Int), .string (ah ++ letB l), .int .i64 (m2 : Int)] w' fun e w'' => ∃ v', e = .returned v' ∧ w''.ownsRow w'.heap.size 9 1 v' Sub.length (texts Sub) ∧ Below w'.heap.size w' w'') := fun w' hs' => by
                have := HIH.out (ss.length - q) (by have := HSL.out; omega) q rfl hq2 w' _ (ah ++ letB l) m2 hs' (by rw [ByteArray.size_append, letB_size]; have := HSL.out; omega) hm3
                rw [hSub] at this; exact this
              rw [hSub] at HL2
              clear hSub hm2 hfull
              have hrt := rune_text l hb4.1 hb4.2.1
              have h32 : IntKind.i32.wrap l = l := by simp only [IntKind.wrap, IntKind.signed, IntKind.bits]; simp; omega
              have hals : (letB l).size = 1 := letB_size l
              obtain ⟨LB, hLB⟩ : ∃ X, letB l = X := ⟨_, rfl⟩
              rw [hLB] at hrt HC hals
              clear hLB
              obtain ⟨AH, hAH⟩ : ∃ X, ah ++ LB = X := ⟨_, rfl⟩
              rw [hAH] at HC
              have HAH : Hid (ah ++ LB = AH) := hAH
              go_wp2_with fail
              refine (HC.out _ (HS.out.below (HB.out.alloc HB.out.size _))).mono ?_
              rintro e w5 ⟨v5, rfl, ho5, hb5⟩
              have hb5' : Below wr.heap.size wr w5 := Below.trans ((Below.refl _ _).alloc (Nat.le_refl _) _) (hb5.mono (by simp))
              have HO5 : Hid (w5.ownsRow w.heap.size 9 1 (.slice a9 Lk.length c9) Lk.length (texts Lk)) := owns_below HO9.out hb5'
              have HB5 : Hid (Below w.heap.size w w5) := HB.out.trans (hb5'.mono HB.out.size)
              rcases own_news ho5 with ⟨rfl, hn0, -⟩ | ⟨g5, cp5, rfl, hnews⟩
              · have HS0 : Hid (Sub = []) := List.length_eq_zero_iff.1 hn0
                clear ho5 hb5 hb5'
                have HL3 : Hid ((txTo ss st ah (k + 1)).take most = Lk) := by show _ = _; rw [HL2.out, HS0.out, List.append_nil]
                have hcap : Lk.length ≤ c9 := own_cap HO5.out
                go_wp2_with (at_builtin; refine wpList_append_none _ rfl _ _ 29 rfl 9 i3 Try.underlying29 hi3 a9 Lk.length c9 rfl rfl hcap ?_)
                go_roundw
                case rel => exact ⟨k + 1, a9, c9, by omega, by go_num, by rw [HL3.out], by rw [HL3.out]; exact HO5.out, HB5.out⟩
                case measure => simp [intOf]; omega
              · have HN : Hid (∀ j u, (texts Sub)[j]? = some u → w5.cell? ((⟨g5, 0, none⟩ : Addr).add j) = some u) := hnews
                clear ho5 hb5 hb5' hnews
                go_wp2_with (at_builtin; refine wpList_append_own _ rfl _ _ 29 rfl w.heap.size 9 i3 (.string ⟨#[]⟩) 1 16 Try.underlying29 hi3 hz3 hs3 hb3 rfl (by decide) (.slice a9 Lk.length c9) Lk.length (texts Lk) rfl HO5.out ⟨g5, 0, none⟩ Sub.length cp5 (texts Sub) rfl (by simp [texts]) HN.out (texts_one410 Sub) (by unfold maxLen; omega) (by omega) HB5.out.size ?_; intro v6 w6 hown hgrow hnil; have HB6 : Hid (Below w.heap.size w w6) := HB5.out.trans (below_of_grown hgrow (fun z hz => own_block_ge HO5.out z hz) HB5.out.size); obtain ⟨a6, c6, rfl⟩ := owns_form hown; have HO6 : Hid (w6.ownsRow w.heap.size 9 1 (.slice a6 (Lk.length + Sub.length) c6) (Lk.length + Sub.length) (texts Lk ++ texts Sub)) := hown; clear hown hgrow hnil)
                go_roundw
                case rel => exact ⟨k + 1, a6, c6, by omega, by go_num, by rw [HL2.out, List.length_append], by rw [HL2.out, List.length_append, texts_append]; exact HO6.out, HB6.out⟩
                case measure => simp [intOf]; omega
          · have HF : Hid (Lk = (txT ss p ah).take most) := by
              show _ = _
              rw [← HLK.out, txTo_all HO.out HST.out ah (by omega)]
            go_wp2
            go_ret
            rw [← HF.out]
            exact ⟨_, rfl, HO9.out, HB.out⟩
end Go.Proofs.Ytbkjbkdmanaohaa
/-
  spec.l12All.
-/
namespace Go.Proofs.Ytbkjbkdmanaohaa
open Go.RowKit
set_option linter.unusedVariables false
theorem nums_letB (c : Int) (h1 : 97 ≤ c) (h2 : c ≤ 122) : strOfNums [c] = letB c := by
  have h : c = 97 ∨ c = 98 ∨ c = 99 ∨ c = 100 ∨ c = 101 ∨ c = 102 ∨ c = 103 ∨ c = 104 ∨ c = 105 ∨ c = 106 ∨ c = 107 ∨ c = 108 ∨ c = 109 ∨ c = 110 ∨ c = 111 ∨ c = 112 ∨ c = 113 ∨ c = 114 ∨ c = 115 ∨ c = 116 ∨ c = 117 ∨ c = 118 ∨ c = 119 ∨ c = 120 ∨ c = 121 ∨ c = 122 := by omega
  rcases h with rfl | rfl | rfl | rfl | rfl | rfl | rfl | rfl | rfl | rfl | rfl | rfl | rfl | rfl | rfl | rfl | rfl | rfl | rfl | rfl | rfl | rfl | rfl | rfl | rfl | rfl <;> rfl
theorem byte_text (c : Int) (h1 : 97 ≤ c) (h2 : c ≤ 122) (w : World) : (convert 61 9 (.slice (some ⟨w.heap.size, 0, none⟩) 1 1)).run Try.prog (w.alloc (.cells #[.int .u8 c] 5)) = .ok (.string (letB c)) (w.alloc (.cells #[.int .u8 c] 5)) := by
  have hb := heap_alloc_last w (.cells #[.int .u8 c] 5)
  have hc := run_convert_bytes_arg (P := Try.prog) (w.alloc (.cells #[.int .u8 c] 5)) 61 5 Try.underlying61 Try.underlying5 w.heap.size 0 1 1 [c] rfl (fun i hi => by
    rw [cell_of_row _ _ _ _ _ _ hb]
    have : i = 0 := by omega
    subst this
    rfl) 9 Try.underlying9
  rw [nums_letB c h1 h2] at hc
  exact hc
set_option maxRecDepth 100000 in
set_option maxHeartbeats 4000000 in
theorem l12All_any (ss : List Sta) (hok : stasOk ss = true) : ∀ (d p : Nat), ss.length - p = d → p < ss.length → ∀ (w : World) (v : Value) (ah : ByteArray) (most : Nat), StatesAt w v ss → ah.size + d ≤ 1000000000000 → most ≤ 1000 →
    Calls Try.prog 38 #[v, .int .i64 p, .string ah, .int .i64 most] w fun e w' => ∃ v', e = .returned v' ∧ w'.ownsRow w.heap.size 9 1 v' ((txT ss p ah).take (most + 1)).length (texts ((txT ss p ah).take (most + 1))) ∧ Below w.heap.size w w' := by
  intro d
  induction d using Nat.strongRecOn with
  | _ d ih =>
    intro p hd hp w v ah most h hah hmost
    obtain ⟨i3, hi3, hz3, hs3, hb3⟩ := info_parts Try.info_str410
    have HIH : Hid _ := ih
    clear ih
    have HS : Hid (StatesAt w v ss) := h
    have HO : Hid (stasOk ss = true) := hok
    clear h
    obtain ⟨b', off, cap', st, ev, hv, hsc, hsm, hbl, hst, c1, c2, hev⟩ := HS.out.at hp
    subst hv
    have HST : Hid (ss[p]? = some st) := hst
    have HE : Hid (EdgesIn 0 w ev st.es) := hev
    have HED : Hid (edsOk (p + 1) ss.length st.es = true) := staOk_es (stasOk_at hok hst)
    have HLEN : Hid (st.es.length ≤ 26) := eds_len HED.out
    obtain ⟨ae, cape, hve, hce, hme⟩ := hev.form
    subst hve
    have HSL : Hid (ss.length - p = d) := hd
    unfold maxLen at hsm hme
    clear hst hev hok hd
    have hpl : (p : Int) < ss.length := by omega
    obtain ⟨R, hR⟩ : ∃ X, (txT ss p ah).take (most + 1) = X := ⟨_, rfl⟩
    have HR : Hid ((txT ss p ah).take (most + 1) = R) := hR
    rw [hR]
    clear hR
    have hp0 : (0 : Int) ≤ (p : Int) := by omega
    have hx2 : w.heap.size < (w.alloc (.cells #[] 9)).heap.size := by simp
    have HX0 : Hid (Below w.heap.size w (w.alloc (.cells #[] 9))) := (Below.refl _ _).alloc (Nat.le_refl _) _
    have HOA : Hid ((w.alloc (.cells #[] 9)).ownsRow w.heap.size 9 1 (.slice (some ⟨w.heap.size, 0, none⟩) 0 0) 0 []) := owns_alone (heap_alloc_last w _) (Nat.le_refl _)
    cases hE : st.ends with
    | true =>
      have HL0 : Hid ((txTo ss st ah 0).take (most + 1) = [ah]) := by show _ = _; rw [txTo_zero, hE, if_pos rfl, List.take_of_length_le (by simp)]
      rw [hE] at c1
      have HNW : Hid (∀ j u, [Value.string ah][j]? = some u → ((w.alloc (.cells #[] 9)).alloc (.cells #[.string ah] 9)).cell? ((⟨w.heap.size + 1, 0, none⟩ : Addr).add j) = some u) := by
        have := cell_one_new (w.alloc (.cells #[] 9)) (.string ah) 9
        rw [World.size_alloc] at this
        exact this
      go_enter Try.func38, Try.ntmps38
      go_wp2_with (at_builtin; refine wpList_append_own _ rfl _ _ 29 rfl w.heap.size 9 i3 (.string ⟨#[]⟩) 1 16 Try.underlying29 hi3 hz3 hs3 hb3 rfl (by decide) (.slice (some ⟨w.heap.size, 0, none⟩) 0 0) 0 [] rfl (HOA.out.alloc _) ⟨_, 0, none⟩ 1 1 [.string ah] rfl rfl HNW.out (one_text ah) (by unfold maxLen; omega) (by omega) (by simp <;> omega) ?_; intro v1 w1 hown hgrow hnil; have HB1 : Hid (Below w.heap.size w w1) := ((HX0.out.alloc (Nat.le_of_lt hx2) _)).trans (below_of_grown hgrow (fun k hk => by simp [Value.ownBlock] at hk; omega) (by simp <;> omega)); obtain ⟨a1, cc1, rfl⟩ := owns_form hown; have HO1 : Hid (w1.ownsRow w.heap.size 9 1 (.slice a1 1 cc1) 1 [.string ah]) := hown; have x1 : w1.cell? ⟨b', off + p * 2 + 1, none⟩ = some (.slice ae st.es.length cape) := (HB1.out.cell (p := ⟨b', off + p * 2 + 1, none⟩) hbl).trans c2; clear hown hgrow hnil)
      go_loopw [9, 10] (fun x i wr => ∃ (k : Nat) (a9 : Option Addr) (c9 : Nat), k ≤ st.es.length ∧ i = .int .i64 k ∧ x = .slice a9 ((txTo ss st ah k).take (most + 1)).length c9 ∧ wr.ownsRow w.heap.size 9 1 (.slice a9 ((txTo ss st ah k).take (most + 1)).length c9) ((txTo ss st ah k).take (most + 1)).length (texts ((txTo ss st ah k).take (most + 1))) ∧ Below w.heap.size w wr ∧ wr.cell? ⟨b', off + p * 2 + 1, none⟩ = some (.slice ae st.es.length cape)) (fun _ i _ => st.es.length - (intOf i).toNat)
      case atStart => exact ⟨0, a1, cc1, Nat.zero_le _, rfl, by rw [HL0.out]; rfl, by rw [HL0.out]; exact HO1.out, HB1.out, x1⟩
      case round =>
        obtain ⟨k, a9, c9, hk, rfl, rfl, ho, hb, x2⟩ := hrel
        have HB : Hid (Below w.heap.size w wr) := hb
        obtain ⟨Lk, hLk⟩ : ∃ X, (txTo ss st ah k).take (most + 1) = X := ⟨_, rfl⟩
        have HLK : Hid ((txTo ss st ah k).take (most + 1) = Lk) := hLk
        rw [hLk] at ho ⊢
        have HO9 : Hid (wr.ownsRow w.heap.size 9 1 (.slice a9 Lk.length c9) Lk.length (texts Lk)) := ho
        have hLm : Lk.length ≤ most + 1 := by rw [← hLk, List.length_take]; omega
        have hbl' : b' < wr.heap.size := Nat.lt_of_lt_of_le hbl HB.out.size
        clear ho hb hLk
        by_cases hlt : k < st.es.length
        · obtain ⟨b2, off2, cap2, ed, hv2, _, _, hbl2, hed, d1, d2⟩ := (HE.out.below HB.out).at hlt
          cases hv2
          have HX : Hid (st.es[k]? = some ed) := hed
          have hb4 := edsOk_at HED.out hed
          obtain ⟨l, t⟩ := ed
          simp only at d1 d2 hb4
          obtain ⟨q, rfl⟩ : ∃ q : Nat, t = (q : Int) := ⟨t.toNat, by omega⟩
          have hq1 : p + 1 ≤ q := by omega
          have hq2 : q < ss.length := by omega
          have hlt' : (k : Int) < st.es.length := by omega
          clear hed
          by_cases hfull : Lk.length = most + 1
          · have HF : Hid (Lk = R) := by
              show _ = _
              have := take_full (n := most + 1) HO.out HST.out ah (k := k) (by rw [HLK.out]; exact hfull)
              rw [HLK.out] at this; exact this.trans HR.out
            have hfi : ¬ ((Lk.length : Int) ≤ (most : Int)) := by omega
            clear hfull
            go_wp2
            go_ret
            rw [← HF.out]
            exact ⟨_, rfl, HO9.out, HB.out⟩
          · have hfi : ((Lk.length : Int) ≤ (most : Int)) := by omega
            obtain ⟨m2, hm2⟩ : ∃ m2 : Nat, most - Lk.length = m2 := ⟨_, rfl⟩
            have hmi : (most : Int) - (Lk.length : Int) = (m2 : Int) := by omega
            have hm3 : m2 ≤ 1000 := by omega
            have HL2 : Hid ((txTo ss st ah (k + 1)).take (most + 1) = Lk ++ (txT ss q (ah ++ letB l)).take (m2 + 1)) := by
              show _ = _
              rw [take_next HX.out, HLK.out, show most + 1 - Lk.length = m2 + 1 by omega]; rfl
            obtain ⟨Sub, hSub⟩ : ∃ X, (txT ss q (ah ++ letB l)).take (m2 + 1) = X := ⟨_, rfl⟩
            have hsl : Sub.length ≤ m2 + 1 := by rw [← hSub, List.length_take]; omega
            have HC : Hid (∀ w', StatesAt w' (.slice (some ⟨b', off, none⟩) ss.length cap') ss → Calls Try.prog 38 #[.slice (some ⟨b', off, none⟩) ss.length cap', .int .i64 (q : Int), .string (ah ++ letB l), .int .i64 (m2 : Int)] w' fun e w'' => ∃ v', e = .returned v' ∧ w''.ownsRow w'.heap.size 9 1 v' Sub.length (texts Sub) ∧ Below w'.heap.size w' w'') := fun w' hs' => by
              have := HIH.out (ss.length - q) (by have := HSL.out; omega) q rfl hq2 w' _ (ah ++ letB l) m2 hs' (by rw [ByteArray.size_append, letB_size]; have := HSL.out; omega) hm3
              rw [hSub] at this; exact this
            rw [hSub] at HL2
            clear hSub hm2 hfull
            have hrt := byte_text l hb4.1 hb4.2.1 (wr.alloc (.cells #[.int .i64 l, .int .i64 q] 73))
            rw [World.size_alloc] at hrt
            have h8 : IntKind.u8.wrap l = l := by simp only [IntKind.wrap, IntKind.signed, IntKind.bits]; simp; omega
            have hals : (letB l).size = 1 := letB_size l
            have HZ : Hid (Below wr.heap.size wr ((wr.alloc (.cells #[.int .i64 l, .int .i64 q] 73)).alloc (.cells #[.int .u8 l] 5))) := ((Below.refl _ _).alloc (Nat.le_refl _) _).alloc (by simp) _
            obtain ⟨LB, hLB⟩ : ∃ X, letB l = X := ⟨_, rfl⟩
            rw [hLB] at hrt HC hals
            clear hLB
            obtain ⟨AH, hAH⟩ : ∃ X, ah ++ LB = X := ⟨_, rfl⟩
            rw [hAH] at HC
            have HAH : Hid (ah ++ LB = AH) := hAH
            go_wp2_with fail
            refine (HC.out _ (HS.out.below (HB.out.trans (HZ.out.mono HB.out.size)))).mono ?_
            rintro e w5 ⟨v5, rfl, ho5, hb5⟩
            have hb5' : Below wr.heap.size wr w5 := Below.trans HZ.out (hb5.mono HZ.out.size)
            have HO5 : Hid (w5.ownsRow w.heap.size 9 1 (.slice a9 Lk.length c9) Lk.length (texts Lk)) := owns_below HO9.out hb5'
            have HB5 : Hid (Below w.heap.size w w5) := HB.out.trans (hb5'.mono HB.out.size)
            have x5 : w5.cell? ⟨b', off + p * 2 + 1, none⟩ = some (.slice (some ⟨b2, off2, none⟩) st.es.length cape) := (hb5'.cell (p := ⟨b', off + p * 2 + 1, none⟩) hbl').trans x2
            rcases own_news ho5 with ⟨rfl, hn0, -⟩ | ⟨g5, cp5, rfl, hnews⟩
            · have HS0 : Hid (Sub = []) := List.length_eq_zero_iff.1 hn0
              clear ho5 hb5 hb5' hrt
              have HL3 : Hid ((txTo ss st ah (k + 1)).take (most + 1) = Lk) := by show _ = _; rw [HL2.out, HS0.out, List.append_nil]
              have hcap : Lk.length ≤ c9 := own_cap HO5.out
              go_wp2_with (at_builtin; refine wpList_append_none _ rfl _ _ 29 rfl 9 i3 Try.underlying29 hi3 a9 Lk.length c9 rfl rfl hcap ?_)
              go_roundw
              case rel => exact ⟨k + 1, a9, c9, by omega, by go_num, by rw [HL3.out], by rw [HL3.out]; exact HO5.out, HB5.out, x5⟩
              case measure => simp [intOf]; omega
            · have HN : Hid (∀ j u, (texts Sub)[j]? = some u → w5.cell? ((⟨g5, 0, none⟩ : Addr).add j) = some u) := hnews
              clear ho5 hb5 hb5' hnews hrt
              go_wp2_with (at_builtin; refine wpList_append_own _ rfl _ _ 29 rfl w.heap.size 9 i3 (.string ⟨#[]⟩) 1 16 Try.underlying29 hi3 hz3 hs3 hb3 rfl (by decide) (.slice a9 Lk.length c9) Lk.length (texts Lk) rfl HO5.out ⟨g5, 0, none⟩ Sub.length cp5 (texts Sub) rfl (by simp [texts]) HN.out (texts_one410 Sub) (by unfold maxLen; omega) (by omega) HB5.out.size ?_; intro v6 w6 hown hgrow hnil; have hq6 : Below w.heap.size w5 w6 := below_of_grown hgrow (fun z hz => own_block_ge HO5.out z hz) HB5.out.size; have HB6 : Hid (Below w.heap.size w w6) := HB5.out.trans hq6; have x6 : w6.cell? ⟨b', off + p * 2 + 1, none⟩ = some (.slice (some ⟨b2, off2, none⟩) st.es.length cape) := (hq6.cell (p := ⟨b', off + p * 2 + 1, none⟩) hbl).trans x5; obtain ⟨a6, c6, rfl⟩ := owns_form hown; have HO6 : Hid (w6.ownsRow w.heap.size 9 1 (.slice a6 (Lk.length + Sub.length) c6) (Lk.length + Sub.length) (texts Lk ++ texts Sub)) := hown; clear hown hgrow hnil hq6)
              go_roundw
              case rel => exact ⟨k + 1, a6, c6, by omega, by go_num, by rw [HL2.out, List.length_append], by rw [HL2.out, List.length_append, texts_append]; exact HO6.out, HB6.out, x6⟩
              case measure => simp [intOf]; omega
        · have HF : Hid (Lk = R) := by
            show _ = _
            rw [← HLK.out, ← HR.out, txTo_all HO.out HST.out ah (by omega)]
          go_wp2
          go_ret
          rw [← HF.out]
          exact ⟨_, rfl, HO9.out, HB.out⟩
    | false =>
      have HL0 : Hid ((txTo ss st ah 0).take (most + 1) = []) := by show _ = _; rw [txTo_zero, hE]; simp
      rw [hE] at c1
      have x1 : (w.alloc (.cells #[] 9)).cell? ⟨b', off + p * 2 + 1, none⟩ = some (.slice ae st.es.length cape) := (HX0.out.cell (p := ⟨b', off + p * 2 + 1, none⟩) hbl).trans c2
      go_enter Try.func38, Try.ntmps38
      go_wp2_with fail
      go_loopw [9, 10] (fun x i wr => ∃ (k : Nat) (a9 : Option Addr) (c9 : Nat), k ≤ st.es.length ∧ i = .int .i64 k ∧ x = .slice a9 ((txTo ss st ah k).take (most + 1)).length c9 ∧ wr.ownsRow w.heap.size 9 1 (.slice a9 ((txTo ss st ah k).take (most + 1)).length c9) ((txTo ss st ah k).take (most + 1)).length (texts ((txTo ss st ah k).take (most + 1))) ∧ Below w.heap.size w wr ∧ wr.cell? ⟨b', off + p * 2 + 1, none⟩ = some (.slice ae st.es.length cape)) (fun _ i _ => st.es.length - (intOf i).toNat)
      case atStart => exact ⟨0, some ⟨w.heap.size, 0, none⟩, 0, Nat.zero_le _, rfl, by rw [HL0.out]; rfl, by rw [HL0.out]; exact HOA.out, HX0.out, x1⟩
      case round =>
        obtain ⟨k, a9, c9, hk, rfl, rfl, ho, hb, x2⟩ := hrel
        have HB : Hid (Below w.heap.size w wr) := hb
        obtain ⟨Lk, hLk⟩ : ∃ X, (txTo ss st ah k).take (most + 1) = X := ⟨_, rfl⟩
        have HLK : Hid ((txTo ss st ah k).take (most + 1) = Lk) := hLk
        rw [hLk] at ho ⊢
        have HO9 : Hid (wr.ownsRow w.heap.size 9 1 (.slice a9 Lk.length c9) Lk.length (texts Lk)) := ho
        have hLm : Lk.length ≤ most + 1 := by rw [← hLk, List.length_take]; omega
        have hbl' : b' < wr.heap.size := Nat.lt_of_lt_of_le hbl HB.out.size
        clear ho hb hLk
        by_cases hlt : k < st.es.length
        · obtain ⟨b2, off2, cap2, ed, hv2, _, _, hbl2, hed, d1, d2⟩ := (HE.out.below HB.out).at hlt
          cases hv2
          have HX : Hid (st.es[k]? = some ed) := hed
          have hb4 := edsOk_at HED.out hed
          obtain ⟨l, t⟩ := ed
          simp only at d1 d2 hb4
          obtain ⟨q, rfl⟩ : ∃ q : Nat, t = (q : Int) := ⟨t.toNat, by omega⟩
          have hq1 : p + 1 ≤ q := by omega
          have hq2 : q < ss.length := by omega
          have hlt' : (k : Int) < st.es.length := by omega
          clear hed
          by_cases hfull : Lk.length = most + 1
          · have HF : Hid (Lk = R) := by
              show _ = _
              have := take_full (n := most + 1) HO.out HST.out ah (k := k) (by rw [HLK.out]; exact hfull)
              rw [HLK.out] at this; exact this.trans HR.out
            have hfi : ¬ ((Lk.length : Int) ≤ (most : Int)) := by omega
            clear hfull
            go_wp2
            go_ret
            rw [← HF.out]
            exact ⟨_, rfl, HO9.out, HB.out⟩
          · have hfi : ((Lk.length : Int) ≤ (most : Int)) := by omega
            obtain ⟨m2, hm2⟩ : ∃ m2 : Nat, most - Lk.length = m2 := ⟨_, rfl⟩
            have hmi : (most : Int) - (Lk.length : Int) = (m2 : Int) := by omega
            have hm3 : m2 ≤ 1000 := by omega
            have HL2 : Hid ((txTo ss st ah (k + 1)).take (most + 1) = Lk ++ (txT ss q (ah ++ letB l)).take (m2 + 1)) := by
              show _ = _
              rw [take_next HX.out, HLK.out, show most + 1 - Lk.length = m2 + 1 by omega]; rfl
            obtain ⟨Sub, hSub⟩ : ∃ X, (txT ss q (ah ++ letB l)).take (m2 + 1) = X := ⟨_, rfl⟩
            have hsl : Sub.length ≤ m2 + 1 := by rw [← hSub, List.length_take]; omega
            have HC : Hid (∀ w', StatesAt w' (.slice (some ⟨b', off, none⟩) ss.length cap') ss → Calls Try.prog 38 #[.slice (some ⟨b', off, none⟩) ss.length cap', .int .i64 (q : Int), .string (ah ++ letB l), .int .i64 (m2 : Int)] w' fun e w'' => ∃ v', e = .returned v' ∧ w''.ownsRow w'.heap.size 9 1 v' Sub.length (texts Sub) ∧ Below w'.heap.size w' w'') := fun w' hs' => by
              have := HIH.out (ss.length - q) (by have := HSL.out; omega) q rfl hq2 w' _ (ah ++ letB l) m2 hs' (by rw [ByteArray.size_append, letB_size]; have := HSL.out; omega) hm3
              rw [hSub] at this; exact this
            rw [hSub] at HL2
            clear hSub hm2 hfull
            have hrt := byte_text l hb4.1 hb4.2.1 (wr.alloc (.cells #[.int .i64 l, .int .i64 q] 73))
            rw [World.size_alloc] at hrt
            have h8 : IntKind.u8.wrap l = l := by simp only [IntKind.wrap, IntKind.signed, IntKind.bits]; simp; omega
            have hals : (letB l).size = 1 := letB_size l
            have HZ : Hid (Below wr.heap.size wr ((wr.alloc (.cells #[.int .i64 l, .int .i64 q] 73)).alloc (.cells #[.int .u8 l] 5))) := ((Below.refl _ _).alloc (Nat.le_refl _) _).alloc (by simp) _
            obtain ⟨LB, hLB⟩ : ∃ X, letB l = X := ⟨_, rfl⟩
            rw [hLB] at hrt HC hals
            clear hLB
            obtain ⟨AH, hAH⟩ : ∃ X, ah ++ LB = X := ⟨_, rfl⟩
            rw [hAH] at HC
            have HAH : Hid (ah ++ LB = AH) := hAH
            go_wp2_with fail
            refine (HC.out _ (HS.out.below (HB.out.trans (HZ.out.mono HB.out.size)))).mono ?_
            rintro e w5 ⟨v5, rfl, ho5, hb5⟩
            have hb5' : Below wr.heap.size wr w5 := Below.trans HZ.out (hb5.mono HZ.out.size)
            have HO5 : Hid (w5.ownsRow w.heap.size 9 1 (.slice a9 Lk.length c9) Lk.length (texts Lk)) := owns_below HO9.out hb5'
            have HB5 : Hid (Below w.heap.size w w5) := HB.out.trans (hb5'.mono HB.out.size)
            have x5 : w5.cell? ⟨b', off + p * 2 + 1, none⟩ = some (.slice (some ⟨b2, off2, none⟩) st.es.length cape) := (hb5'.cell (p := ⟨b', off + p * 2 + 1, none⟩) hbl').trans x2
            rcases own_news ho5 with ⟨rfl, hn0, -⟩ | ⟨g5, cp5, rfl, hnews⟩
            · have HS0 : Hid (Sub = []) := List.length_eq_zero_iff.1 hn0
              clear ho5 hb5 hb5' hrt
              have HL3 : Hid ((txTo ss st ah (k + 1)).take (most + 1) = Lk) := by show _ = _; rw [HL2.out, HS0.out, List.append_nil]
              have hcap : Lk.length ≤ c9 := own_cap HO5.out
              go_wp2_with (at_builtin; refine wpList_append_none _ rfl _ _ 29 rfl 9 i3 Try.underlying29 hi3 a9 Lk.length c9 rfl rfl hcap ?_)
              go_roundw
              case rel => exact ⟨k + 1, a9, c9, by omega, by go_num, by rw [HL3.out], by rw [HL3.out]; exact HO5.out, HB5.out, x5⟩
              case measure => simp [intOf]; omega
            · have HN : Hid (∀ j u, (texts Sub)[j]? = some u → w5.cell? ((⟨g5, 0, none⟩ : Addr).add j) = some u) := hnews
              clear ho5 hb5 hb5' hnews hrt
              go_wp2_with (at_builtin; refine wpList_append_own _ rfl _ _ 29 rfl w.heap.size 9 i3 (.string ⟨#[]⟩) 1 16 Try.underlying29 hi3 hz3 hs3 hb3 rfl (by decide) (.slice a9 Lk.length c9) Lk.length (texts Lk) rfl HO5.out ⟨g5, 0, none⟩ Sub.length cp5 (texts Sub) rfl (by simp [texts]) HN.out (texts_one410 Sub) (by unfold maxLen; omega) (by omega) HB5.out.size ?_; intro v6 w6 hown hgrow hnil; have hq6 : Below w.heap.size w5 w6 := below_of_grown hgrow (fun z hz => own_block_ge HO5.out z hz) HB5.out.size; have HB6 : Hid (Below w.heap.size w w6) := HB5.out.trans hq6; have x6 : w6.cell? ⟨b', off + p * 2 + 1, none⟩ = some (.slice (some ⟨b2, off2, none⟩) st.es.length cape) := (hq6.cell (p := ⟨b', off + p * 2 + 1, none⟩) hbl).trans x5; obtain ⟨a6, c6, rfl⟩ := owns_form hown; have HO6 : Hid (w6.ownsRow w.heap.size 9 1 (.slice a6 (Lk.length + Sub.length) c6) (Lk.length + Sub.length) (texts Lk ++ texts Sub)) := hown; clear hown hgrow hnil hq6)
              go_roundw
              case rel => exact ⟨k + 1, a6, c6, by omega, by go_num, by rw [HL2.out, List.length_append], by rw [HL2.out, List.length_append, texts_append]; exact HO6.out, HB6.out, x6⟩
              case measure => simp [intOf]; omega
        · have HF : Hid (Lk = R) := by
            show _ = _
            rw [← HLK.out, ← HR.out, txTo_all HO.out HST.out ah (by omega)]
          go_wp2
          go_ret
          rw [← HF.out]
          exact ⟨_, rfl, HO9.out, HB.out⟩
end Go.Proofs.Ytbkjbkdmanaohaa
