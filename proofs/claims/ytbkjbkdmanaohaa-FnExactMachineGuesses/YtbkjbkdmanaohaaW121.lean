/-
  impl.MachineGuesses and spec.MachineGuesses.
-/
import Derived.Test.YtbkjbkdmanaohaaGW99
import Derived.Test.YtbkjbkdmanaohaaGW56
namespace Go.Proofs.Ytbkjbkdmanaohaa
open Go.RowKit Go.Sort
set_option linter.unusedVariables false
/-- What a machine guesses. -/
def gueT (ss : List Sta) (s : ByteArray) : List ByteArray := if machT ss then (nearL s).filter (knT ss) else []
theorem gue_take {xs : List ByteArray} {p : ByteArray → Bool} {k : Nat} {x : ByteArray} (hx : xs[k]? = some x) : (xs.take (k + 1)).filter p = (xs.take k).filter p ++ if p x then [x] else [] := by
  rw [List.take_add_one, hx, List.filter_append]
  cases h : p x <;> simp [h]
theorem gue_length (ss : List Sta) (s : ByteArray) : (gueT ss s).length ≤ 1000 := by
  unfold gueT
  split
  · exact Nat.le_trans (List.length_filter_le _ _) (nearL_length s)
  · simp
theorem owns_texts {lo : Nat} {w : World} {v : Value} {xs : List ByteArray} (h : w.ownsRow lo 9 1 v xs.length (rowN xs)) (hz : ∀ x ∈ xs, x.size ≤ maxLen) : TextsOwn lo w v xs := by
  have h1 : w.ownsRow lo 9 1 v (xs.map fun x => x.data.toList).length ((xs.map fun x => x.data.toList).map encStr) := by rw [List.length_map, ← rowN_enc]; exact h
  have h2 := TextsOwn.of_owns h1 (fun x hx => by
    obtain ⟨y, hy, rfl⟩ := List.mem_map.1 hx
    exact hz y hy)
  have e : ((xs.map fun x => x.data.toList).map fun x => (⟨x.toArray⟩ : ByteArray)) = xs := by
    rw [List.map_map]
    exact List.map_id' xs
  rw [e] at h2
  exact h2
theorem ownsRow_below {lo : Nat} {w w' : World} {e : TypeId} {size k : Nat} {v : Value} {xs : List Value} (h : w.ownsRow lo e size v k xs) (hb : Below w.heap.size w w') : w'.ownsRow lo e size v k xs := by
  refine ⟨h.1, ?_⟩
  rcases h.2 with h | ⟨g, cap, cur, hv, hg, hh, r⟩
  · exact .inl h
  · exact .inr ⟨g, cap, cur, hv, hg, (hb.block g (Array.getElem?_eq_some_iff.1 hh).1).trans hh, r⟩
theorem TextsAt.grown {w w' : World} {row : Option Nat} {v : Value} {xs : List ByteArray} (h : TextsAt w v xs) (hg : w.grownBy w' row) (hne : ∀ b off n cap, v = .slice (some ⟨b, off, none⟩) n cap → xs ≠ [] → some b ≠ row) : TextsAt w' v xs := by
  obtain ⟨a, cap, hv, hc, hm, hf, hh⟩ := h
  refine ⟨a, cap, hv, hc, hm, hf, fun hn => ?_⟩
  obtain ⟨b, off, ha, h2, h3⟩ := hh hn
  have hb := hg.block b h2 (hne b off _ _ (by rw [hv, ha]) hn)
  refine ⟨b, off, ha, Nat.lt_of_lt_of_le h2 hg.size, fun i x hx => ?_⟩
  rw [← h3 i x hx]
  simp [World.cell?, hb]
theorem own_ne {w : World} {B : Nat} {v : Value} {xs : List ByteArray} {t : TypeId} (h : TextsAt w v xs) (hB : w.heap[B]? = some (.cells #[] t (0, 0))) : ∀ b off n cap, v = .slice (some ⟨b, off, none⟩) n cap → xs ≠ [] → b ≠ B ∧ b < w.heap.size := by
  intro b off n cap hv hne
  obtain ⟨a, cap', hv', hc, hm, hf, hh⟩ := h
  obtain ⟨b', off', ha, h2, h3⟩ := hh hne
  rw [hv'] at hv
  cases hv
  cases ha
  refine ⟨fun e => ?_, h2⟩
  subst e
  have h4 := h3 0 _ (List.getElem?_eq_getElem (List.length_pos_iff.2 hne))
  simp [World.cell?, hB] at h4
theorem nearL_small (s : ByteArray) : ∀ x ∈ nearL s, x.size ≤ 12 := by
  intro x hx
  unfold nearL at hx
  split at hx
  · exact wok_le12 ((nearTo_mem s x _).1 hx).2.2
  · cases hx
theorem gueT_small (ss : List Sta) (s : ByteArray) : ∀ x ∈ gueT ss s, x.size ≤ 12 := by
  intro x hx
  unfold gueT at hx
  split at hx
  · exact nearL_small s x (List.mem_filter.1 hx).1
  · cases hx
set_option maxRecDepth 100000 in
set_option maxHeartbeats 2000000 in
theorem implMachineGuesses_any (w : World) (v : Value) (ss : List Sta) (s : ByteArray) (h : StatesAt w v ss) (hs : s.size ≤ 1048576) :
    Calls Try.prog 14 #[v, .string s] w fun e w' => ∃ v', e = .returned v' ∧ TextsOwn w.heap.size w' v' (gueT ss s) ∧ Below w.heap.size w w' := by
  obtain ⟨a, cap, rfl, hc, hm⟩ := h.form
  have HS : Hid (StatesAt w (.slice a ss.length cap) ss) := h
  clear h
  unfold maxLen at hm
  cases hmt : machT ss with
  | false =>
    have HC : Hid (gueT ss s = []) := by show _ = _; simp [gueT, hmt]
    go_enter Try.func14, Try.ntmps14
    go_wp2_with fail
    refine (implMachineOk_any _ _ ss HS.out).mono ?_
    rw [hmt]
    rintro e w1 ⟨rfl, hb1⟩
    have HB1 : Hid (Below w.heap.size w w1) := hb1
    clear hb1
    go_wp2
    go_ret
    rw [HC.out]
    exact ⟨_, rfl, ⟨none, 0, rfl, Nat.le_refl _, Nat.zero_le _, fun i x hx => by simp at hx, fun hn => absurd rfl hn⟩, HB1.out⟩
  | true =>
    have HC : Hid (gueT ss s = (nearL s).filter (knT ss)) := by show _ = _; simp [gueT, hmt]
    have HSM : Hid (∀ x ∈ gueT ss s, x.size ≤ 12) := gueT_small ss s
    obtain ⟨hok, h1, h4⟩ := machT_parts hmt
    have HO : Hid (stasOk ss = true) := hok
    obtain ⟨i0, hi, hz0, hz1, hz2⟩ := info_parts infoStr
    have hnl := nearL_length s
    clear hok
    go_enter Try.func14, Try.ntmps14
    go_wp2_with fail
    refine (implMachineOk_any _ _ ss HS.out).mono ?_
    rw [hmt]
    rintro e w1 ⟨rfl, hb1⟩
    have HB1 : Hid (Below w.heap.size w w1) := hb1
    clear hb1
    go_wp2_with fail
    refine (near_any s _ hs).mono ?_
    rintro e w2 ⟨u, rfl, h2, hb2⟩
    have ht2 := h2.at
    obtain ⟨a1, cap1, rfl, hc1, hm1⟩ := ht2.form
    have HB2 : Hid (Below w.heap.size w w2) := HB1.out.trans (hb2.mono HB1.out.size)
    have HT2 : Hid (TextsAt w2 (.slice a1 (nearL s).length cap1) (nearL s)) := ht2
    clear hb2 h2 ht2
    go_wp2
    go_loopw [5, 14] (fun v5 i wr => ∃ (k : Nat) (lv : Value), k ≤ (nearL s).length ∧ i = .int .i64 k ∧ lv = v5 ∧ wr.ownsRow w2.heap.size 9 1 lv (((nearL s).take k).filter (knT ss)).length (rowN (((nearL s).take k).filter (knT ss))) ∧ Below w2.heap.size w2 wr) (fun _ i _ => (nearL s).length - (intOf i).toNat)
    case atStart => exact ⟨0, _, Nat.zero_le _, rfl, rfl, World.ownsRow_nil _ _ _ _, Below.refl _ _⟩
    case round =>
      obtain ⟨k, lv, hk, rfl, rfl, hown, hb⟩ := hrel
      have HB : Hid (Below w2.heap.size w2 wr) := hb
      have HOW : Hid (wr.ownsRow w2.heap.size 9 1 lv (((nearL s).take k).filter (knT ss)).length (rowN (((nearL s).take k).filter (knT ss)))) := hown
      have HBw : Hid (Below w.heap.size w wr) := HB2.out.trans (hb.mono HB2.out.size)
      clear hb hown
      by_cases hlt : k < (nearL s).length
      · obtain ⟨b, off, cap', x, hv, hbl, hx, hxm, e0⟩ := (HT2.out.below HB.out).at hlt
        cases hv
        have HX : Hid ((nearL s)[k]? = some x) := hx
        have HXM : Hid (x.size ≤ maxLen) := hxm
        have hfl : (((nearL s).take k).filter (knT ss)).length ≤ 1000 := Nat.le_trans (List.length_filter_le _ _) (by simp; omega)
        clear hx hxm
        cases hkn : knT ss x with
        | false =>
          have HN : Hid (((nearL s).take (k + 1)).filter (knT ss) = ((nearL s).take k).filter (knT ss)) := by show _ = _; rw [gue_take HX.out, hkn]; simp
          go_wp2_with fail
          refine (knows_any _ _ ss x (HS.out.below HBw.out) HO.out h1 HXM.out).mono ?_
          rw [hkn]
          rintro e w3 ⟨rfl, hb3⟩
          have HB3 : Hid (Below w2.heap.size w2 w3) := HB.out.trans (hb3.mono HB.out.size)
          have HOW3 : Hid (w3.ownsRow w2.heap.size 9 1 lv (((nearL s).take k).filter (knT ss)).length (rowN (((nearL s).take k).filter (knT ss)))) := ownsRow_below HOW.out hb3
          clear hb3
          go_wp2
          go_roundw
          case rel => exact ⟨k + 1, _, by omega, by go_num, rfl, by rw [HN.out]; exact HOW3.out, HB3.out⟩
          case measure => simp [intOf]; omega
        | true =>
          have HN : Hid (((nearL s).take (k + 1)).filter (knT ss) = ((nearL s).take k).filter (knT ss) ++ [x]) := by show _ = _; rw [gue_take HX.out, hkn]; simp
          go_wp2_with fail
          refine (knows_any _ _ ss x (HS.out.below HBw.out) HO.out h1 HXM.out).mono ?_
          rw [hkn]
          rintro e w3 ⟨rfl, hb3⟩
          have HB3 : Hid (Below w2.heap.size w2 w3) := HB.out.trans (hb3.mono HB.out.size)
          have HOW3 : Hid (w3.ownsRow w2.heap.size 9 1 lv (((nearL s).take k).filter (knT ss)).length (rowN (((nearL s).take k).filter (knT ss)))) := ownsRow_below HOW.out hb3
          have hML : (((nearL s).take k).filter (knT ss)).length + 1 ≤ maxLen := by unfold maxLen; omega
          have hz3 := HB3.out.size
          clear hb3
          go_wp2_with (at_builtin; refine wpList_append_own _ rfl _ _ 29 rfl w2.heap.size 9 i0 (.string ⟨#[]⟩) 1 16 Try.underlying29 hi hz0 hz1 hz2 rfl (by decide) _ _ _ rfl (HOW3.out.alloc _) ⟨w3.heap.size, 0, none⟩ 1 1 [.string x] rfl rfl (cell_one_new _ _ _) (by simp [Value.oneCell']) hML (by omega) (by simp; omega) ?_)
          intro v' w4 hown' hgrow _
          have HB4 : Hid (Below w2.heap.size w2 w4) := (HB3.out.alloc HB3.out.size _).grown hgrow (by simp; omega) (fun q hq => (HOW3.out.lt q hq).1)
          have HOW4 : Hid (w4.ownsRow w2.heap.size 9 1 v' (((nearL s).take (k + 1)).filter (knT ss)).length (rowN (((nearL s).take (k + 1)).filter (knT ss)))) := by
            show World.ownsRow _ _ _ _ _ _ _
            rw [HN.out, List.length_append, List.length_singleton]
            simpa [rowN] using hown'
          clear hgrow hown'
          go_wp2
          go_roundw
          case rel => exact ⟨k + 1, _, by omega, by go_num, rfl, HOW4.out, HB4.out⟩
          case measure => simp [intOf]; omega
      · obtain rfl : k = (nearL s).length := by omega
        rw [List.take_length, ← HC.out] at HOW
        go_wp2
        go_ret
        exact ⟨_, rfl, owns_texts (ownsRow_low HOW.out HB2.out.size) (fun x hx => by have := HSM.out x hx; unfold maxLen; omega), HBw.out⟩
set_option maxRecDepth 100000 in
set_option maxHeartbeats 2000000 in
theorem specMachineGuesses_any (w : World) (v : Value) (ss : List Sta) (s : ByteArray) (h : StatesAt w v ss) (hs : s.size ≤ 1048576) :
    Calls Try.prog 13 #[v, .string s] w fun e w' => ∃ v', e = .returned v' ∧ TextsAt w' v' (gueT ss s) ∧ Below w.heap.size w w' := by
  have hmx : s.size ≤ maxLen := by unfold maxLen; omega
  obtain ⟨a, cap, rfl, hc, hm⟩ := h.form
  have HS : Hid (StatesAt w (.slice a ss.length cap) ss) := h
  clear h
  unfold maxLen at hm
  obtain ⟨W0, hW0⟩ : ∃ W0, w.alloc (.cells #[] 9) = W0 := ⟨_, rfl⟩
  have B0 : Hid (Below w.heap.size w W0) := by rw [← hW0]; exact (Below.refl _ _).alloc (Nat.le_refl _) _
  have K0 : Hid (W0.ownsRow w.heap.size 9 1 (.slice (some ⟨w.heap.size, 0, none⟩) 0 0) 0 []) := by
    rw [← hW0]
    exact ⟨rfl, .inr ⟨w.heap.size, 0, #[], rfl, Nat.le_refl _, Go.Deep.blk_alloc_new _ _, Nat.le_refl _, Nat.zero_le _, rfl, rfl⟩⟩
  cases hmt : machT ss with
  | false =>
    have HC : Hid (gueT ss s = []) := by show _ = _; simp [gueT, hmt]
    go_enter Try.func13, Try.ntmps13
    go_wp2_with fail
    clear hW0
    refine (specMachineOk_any _ _ ss (HS.out.below B0.out)).mono ?_
    rw [hmt]
    rintro e w1 ⟨rfl, hb1⟩
    have HB1 : Hid (Below w.heap.size w w1) := B0.out.trans (hb1.mono B0.out.size)
    clear hb1
    go_wp2
    go_ret
    rw [HC.out]
    exact ⟨_, rfl, ⟨_, 0, rfl, Nat.le_refl _, Nat.zero_le _, fun i x hx => by simp at hx, fun hn => absurd rfl hn⟩, HB1.out⟩
  | true =>
    obtain ⟨hok, h1, h4⟩ := machT_parts hmt
    have HO : Hid (stasOk ss = true) := hok
    clear hok
    cases hw : wok s with
    | false =>
      have HC : Hid (gueT ss s = []) := by show _ = _; simp [gueT, hmt, nearL, hw]
      go_enter Try.func13, Try.ntmps13
      go_wp2_with fail
      clear hW0
      refine (specMachineOk_any _ _ ss (HS.out.below B0.out)).mono ?_
      rw [hmt]
      rintro e w1 ⟨rfl, hb1⟩
      have HB1 : Hid (Below w.heap.size w w1) := B0.out.trans (hb1.mono B0.out.size)
      clear hb1
      go_wp2_with fail
      refine (l1Word_any s _ hmx).mono ?_
      rw [hw]
      rintro e w2 ⟨rfl, rfl⟩
      go_wp2
      go_ret
      rw [HC.out]
      exact ⟨_, rfl, ⟨_, 0, rfl, Nat.le_refl _, Nat.zero_le _, fun i x hx => by simp at hx, fun hn => absurd rfl hn⟩, HB1.out⟩
    | true =>
      have hnn : nearL s = near s := if_pos hw
      have HNN : Hid (nearL s = near s) := hnn
      have HC : Hid (gueT ss s = (nearL s).filter (knT ss)) := by show _ = _; simp [gueT, hmt]
      have HSM : Hid (∀ x ∈ gueT ss s, x.size ≤ 12) := gueT_small ss s
      have h12 := wok_le12 hw
      obtain ⟨i0, hi, hz0, hz1, hz2⟩ := info_parts infoStr
      have hnl := nearL_length s
      clear hnn
      go_enter Try.func13, Try.ntmps13
      go_wp2_with fail
      clear hW0
      refine (specMachineOk_any _ _ ss (HS.out.below B0.out)).mono ?_
      rw [hmt]
      rintro e w1 ⟨rfl, hb1⟩
      have HB1 : Hid (Below w.heap.size w w1) := B0.out.trans (hb1.mono B0.out.size)
      have K1 : Hid (w1.ownsRow w.heap.size 9 1 (.slice (some ⟨w.heap.size, 0, none⟩) 0 0) 0 []) := ownsRow_below K0.out hb1
      have hz1' : w.heap.size < w1.heap.size := by
        rcases K1.out.2 with ⟨h0, _⟩ | ⟨g, cp, cur, hv, _, hh, _⟩
        · cases h0
        · cases hv
          exact (Array.getElem?_eq_some_iff.1 hh).1
      clear hb1
      go_wp2_with fail
      refine (l1Word_any s _ hmx).mono ?_
      rw [hw]
      rintro e wx ⟨rfl, rfl⟩
      go_wp2_with fail
      refine (l1Near_any s _ h12).mono ?_
      rintro e w2 ⟨u, rfl, h2, hb2⟩
      rw [← HNN.out] at h2
      have ht2 := h2.at (nearL_length s) (nearL_small s)
      obtain ⟨a1, cap1, rfl, hc1, hm1⟩ := ht2.form
      have HB2 : Hid (Below w.heap.size w w2) := HB1.out.trans (hb2.mono HB1.out.size)
      have HT2 : Hid (TextsAt w2 (.slice a1 (nearL s).length cap1) (nearL s)) := ht2
      have K2 : Hid (w2.ownsRow w.heap.size 9 1 (.slice (some ⟨w.heap.size, 0, none⟩) 0 0) 0 []) := ownsRow_below K1.out hb2
      clear hb2 h2 ht2
      have HE0 : Hid (w2.heap[w.heap.size]? = some (.cells #[] 9 (0, 0))) := by
        rcases K2.out.2 with ⟨h0, _⟩ | ⟨g, cp, cur, hv, _, hh, _, _, hsz, _⟩
        · cases h0
        · cases hv
          have : cur = #[] := Array.size_eq_zero_iff.1 (by simpa using hsz)
          rw [this] at hh
          exact hh
      have HNB : Hid (∀ b off n cap, Value.slice a1 (nearL s).length cap1 = .slice (some ⟨b, off, none⟩) n cap → nearL s ≠ [] → b ≠ w.heap.size ∧ b < w2.heap.size) := own_ne HT2.out HE0.out
      go_wp2
      go_loopw [5, 7] (fun v5 i wr => ∃ (k q : Nat) (lv : Value), k ≤ (nearL s).length ∧ i = .int .i64 k ∧ lv = v5 ∧ lv.ownBlock = some q ∧ (q = w.heap.size ∨ w2.heap.size ≤ q) ∧ wr.ownsRow w.heap.size 9 1 lv (((nearL s).take k).filter (knT ss)).length (rowN (((nearL s).take k).filter (knT ss))) ∧ TextsAt wr (.slice a1 (nearL s).length cap1) (nearL s) ∧ w2.heap.size ≤ wr.heap.size ∧ Below w.heap.size w wr) (fun _ i _ => (nearL s).length - (intOf i).toNat)
      case atStart => exact ⟨0, w.heap.size, _, Nat.zero_le _, rfl, rfl, rfl, .inl rfl, K2.out, HT2.out, Nat.le_refl _, HB2.out⟩
      case round =>
        obtain ⟨k, q, lv, hk, rfl, rfl, hq, hq2, hown, htx, hsz, hb⟩ := hrel
        have HB : Hid (Below w.heap.size w wr) := hb
        have HOW : Hid (wr.ownsRow w.heap.size 9 1 lv (((nearL s).take k).filter (knT ss)).length (rowN (((nearL s).take k).filter (knT ss)))) := hown
        have HTX : Hid (TextsAt wr (.slice a1 (nearL s).length cap1) (nearL s)) := htx
        have HQ : Hid (lv.ownBlock = some q ∧ (q = w.heap.size ∨ w2.heap.size ≤ q)) := ⟨hq, hq2⟩
        clear hb hown htx hq hq2
        by_cases hlt : k < (nearL s).length
        · obtain ⟨b, off, cap', x, hv, hbl, hx, hxm, e0⟩ := HTX.out.at hlt
          cases hv
          have HX : Hid ((nearL s)[k]? = some x) := hx
          have HXM : Hid (x.size ≤ maxLen) := hxm
          have hfl : (((nearL s).take k).filter (knT ss)).length ≤ 1000 := Nat.le_trans (List.length_filter_le _ _) (by simp; omega)
          have HP : Hid (placeOk ss (runT ss x.data.toList 0)) := runT_ok HO.out _ _ (.inr ⟨0, rfl, h1⟩)
          clear hx hxm
          go_wp2_with fail
          refine (l3Go_any _ _ ss x (HS.out.below HB.out) HO.out h1 HXM.out).mono ?_
          rintro e w3 ⟨rfl, hb3⟩
          have HB3 : Hid (Below w.heap.size w w3) := HB.out.trans (hb3.mono HB.out.size)
          have HOW3 : Hid (w3.ownsRow w.heap.size 9 1 lv (((nearL s).take k).filter (knT ss)).length (rowN (((nearL s).take k).filter (knT ss)))) := ownsRow_below HOW.out hb3
          have HTX3 : Hid (TextsAt w3 (.slice (some ⟨b, off, none⟩) (nearL s).length cap1) (nearL s)) := HTX.out.below hb3
          have hsz3 : w2.heap.size ≤ w3.heap.size := Nat.le_trans hsz hb3.size
          have e3 := (hb3.cell (p := ⟨b, off + k, none⟩) hbl).trans e0
          clear hb3 e0
          rcases HP.out with hneg | ⟨p, hp, hpl⟩
          · have HN : Hid (((nearL s).take (k + 1)).filter (knT ss) = ((nearL s).take k).filter (knT ss)) := by
              show _ = _
              have hkn : knT ss x = false := by unfold knT; rw [hneg]; rfl
              rw [gue_take HX.out, hkn]; simp
            rw [hneg]
            clear hneg
            go_wp2
            go_roundw
            case rel => exact ⟨k + 1, q, _, by omega, by go_num, rfl, HQ.out.1, HQ.out.2, by rw [HN.out]; exact HOW3.out, HTX3.out, hsz3, HB3.out⟩
            case measure => simp [intOf]; omega
          · obtain ⟨b', off', cap'', st, ev, hv, _, _, hbl', hst, c1, _, _⟩ := (HS.out.below HB3.out).at hpl
            cases hv
            have hkn : knT ss x = st.ends := by unfold knT; rw [hp]; exact endsT_at hst
            have HKN : Hid (knT ss x = st.ends) := hkn
            have hp0 : (p : Int) ≥ 0 := by omega
            rw [hp]
            clear hp hst hkn
            cases hen : st.ends with
            | false =>
              have HN : Hid (((nearL s).take (k + 1)).filter (knT ss) = ((nearL s).take k).filter (knT ss)) := by show _ = _; rw [gue_take HX.out, HKN.out, hen]; simp
              rw [hen] at c1
              go_wp2
              go_roundw
              case rel => exact ⟨k + 1, q, _, by omega, by go_num, rfl, HQ.out.1, HQ.out.2, by rw [HN.out]; exact HOW3.out, HTX3.out, hsz3, HB3.out⟩
              case measure => simp [intOf]; omega
            | true =>
              have HN : Hid (((nearL s).take (k + 1)).filter (knT ss) = ((nearL s).take k).filter (knT ss) ++ [x]) := by show _ = _; rw [gue_take HX.out, HKN.out, hen]; simp
              rw [hen] at c1
              have hML : (((nearL s).take k).filter (knT ss)).length + 1 ≤ maxLen := by unfold maxLen; omega
              go_wp2_with (at_builtin; refine wpList_append_own_at _ rfl _ _ 29 rfl w.heap.size 9 i0 (.string ⟨#[]⟩) 1 16 Try.underlying29 hi hz0 hz1 hz2 rfl (by decide) _ _ _ rfl (HOW3.out.alloc _) ⟨w3.heap.size, 0, none⟩ 1 1 [.string x] rfl rfl (cell_one_new _ _ _) (by simp [Value.oneCell']) hML (by omega) (by have := HB3.out.size; simp; omega) ?_)
              intro v' w4 hown' hgrow _ hblk
              have HB4 : Hid (Below w.heap.size w w4) := (HB3.out.alloc HB3.out.size _).grown hgrow (by have := HB3.out.size; simp; omega) (fun q hq => (HOW3.out.lt q hq).1)
              have HOW4 : Hid (w4.ownsRow w.heap.size 9 1 v' (((nearL s).take (k + 1)).filter (knT ss)).length (rowN (((nearL s).take (k + 1)).filter (knT ss)))) := by
                show World.ownsRow _ _ _ _ _ _ _
                rw [HN.out, List.length_append, List.length_singleton]
                simpa [rowN] using hown'
              have HTX4 : Hid (TextsAt w4 (.slice (some ⟨b, off, none⟩) (nearL s).length cap1) (nearL s)) := (HTX3.out.below ((Below.refl _ _).alloc (Nat.le_refl _) _)).grown hgrow (fun b2 o2 n2 c2 hv hne e => by
                obtain ⟨hn1, hn2⟩ := HNB.out b2 o2 n2 c2 hv hne
                rw [HQ.out.1] at e
                cases e
                rcases HQ.out.2 with h | h <;> omega)
              have HQ4 : Hid (∃ q', v'.ownBlock = some q' ∧ (q' = w.heap.size ∨ w2.heap.size ≤ q')) := by
                rcases hblk with h | h
                · exact ⟨q, h.trans HQ.out.1, HQ.out.2⟩
                · refine ⟨_, h, .inr ?_⟩
                  omega
              have hsz4 : w2.heap.size ≤ w4.heap.size := Nat.le_trans hsz3 (Nat.le_trans (by simp) hgrow.size)
              clear hgrow hown' hblk
              go_wp2
              go_roundw
              case rel =>
                obtain ⟨q', hq', hq2'⟩ := HQ4.out
                exact ⟨k + 1, q', _, by omega, by go_num, rfl, hq', hq2', HOW4.out, HTX4.out, hsz4, HB4.out⟩
              case measure => simp [intOf]; omega
        · obtain rfl : k = (nearL s).length := by omega
          rw [List.take_length, ← HC.out] at HOW
          go_wp2
          go_ret
          exact ⟨_, rfl, (owns_texts HOW.out (fun x hx => by have := HSM.out x hx; unfold maxLen; omega)).at, HB.out⟩
end Go.Proofs.Ytbkjbkdmanaohaa
