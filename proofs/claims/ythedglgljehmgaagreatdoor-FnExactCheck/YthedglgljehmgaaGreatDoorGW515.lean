/-
  Words of a text that a book does not know: the model, and impl.Check.
-/
import Derived.Test.YthedglgljehmgaaGreatDoorW510
import Derived.Test.YthedglgljehmgaaGreatDoorW300
import Derived.Test.YthedglgljehmgaaGreatDoorW153
import Derived.Test.YthedglgljehmgaaGreatDoorGW78
import Derived.Test.YthedglgljehmgaaGreatDoorShelf
import Derived.Test.YthedglgljehmgaaGreatDoorW301
import Derived.Test.YthedglgljehmgaaGreatDoorGW154
import Derived.Test.YthedglgljehmgaaGreatDoorGW131
namespace Go.Proofs.YthedglgljehmgaaGreatDoor
open Go.RowKit Go.Maps Go.WideMaps
set_option linter.unusedVariables false
set_option linter.unusedSimpArgs false
/-- Small letters. -/
def lowS (s : ByteArray) : ByteArray := ⟨(Lib.toLowerA s.data.toList).toArray⟩
def lettersAt (s : ByteArray) (k : Nat) : Nat := ahN (s.extract k s.size).data.toList
def chkF (K : ByteArray → Bool) (s : ByteArray) : Nat → Nat → List GuessM
  | 0, _ => []
  | f + 1, k => if k < s.size then (if 0 < lettersAt s k ∧ K (lowS (s.extract k (k + lettersAt s k))) = false then [(lowS (s.extract k (k + lettersAt s k)), (k : Int))] else []) ++ chkF K s f (k + lettersAt s k + 1) else []
theorem chkF_fuel (K : ByteArray → Bool) (s : ByteArray) : ∀ (f g k : Nat), s.size ≤ k + f → s.size ≤ k + g → chkF K s f k = chkF K s g k
  | 0, 0, _, _, _ => rfl
  | 0, g + 1, k, h, _ => by rw [chkF, chkF, if_neg (by omega)]
  | f + 1, 0, k, _, h => by rw [chkF, chkF, if_neg (by omega)]
  | f + 1, g + 1, k, h1, h2 => by
    rw [chkF, chkF]
    by_cases hk : k < s.size
    · rw [if_pos hk, if_pos hk, chkF_fuel K s f g _ (by omega) (by omega)]
    · rw [if_neg hk, if_neg hk]
def chkT (K : ByteArray → Bool) (s : ByteArray) : List GuessM := chkF K s s.size 0
def chkRest (K : ByteArray → Bool) (s : ByteArray) (k : Nat) : List GuessM := chkF K s s.size k
theorem chkRest_end {K : ByteArray → Bool} {s : ByteArray} {k : Nat} (h : s.size ≤ k) : chkRest K s k = [] := by
  unfold chkRest
  rw [chkF_fuel K s s.size 0 k (by omega) (by omega)]
  rfl
theorem chkRest_hit {K : ByteArray → Bool} {s : ByteArray} {k : Nat} (h : k < s.size) (hn : 0 < lettersAt s k) (hk : K (lowS (s.extract k (k + lettersAt s k))) = false) : chkRest K s k = (lowS (s.extract k (k + lettersAt s k)), (k : Int)) :: chkRest K s (k + lettersAt s k + 1) := by
  unfold chkRest
  rw [chkF_fuel K s s.size (s.size + 1) k (by omega) (by omega), chkF, if_pos h, if_pos ⟨hn, hk⟩]
  rfl
theorem chkRest_not {K : ByteArray → Bool} {s : ByteArray} {k : Nat} (h : k < s.size) (hn : ¬ (0 < lettersAt s k ∧ K (lowS (s.extract k (k + lettersAt s k))) = false)) : chkRest K s k = chkRest K s (k + lettersAt s k + 1) := by
  unfold chkRest
  rw [chkF_fuel K s s.size (s.size + 1) k (by omega) (by omega), chkF, if_pos h, if_neg hn]
  rfl
noncomputable def chkR (xs : List Aff) (es : List (ByteArray × ByteArray)) (s : ByteArray) : List GuessM := if bookT xs es = true ∧ s.size ≤ 300 then chkT (knowsT xs es) s else []
theorem lettersAt_le (s : ByteArray) (k : Nat) (h : k ≤ s.size) : k + lettersAt s k ≤ s.size := by
  have := ahN_size (s.extract k s.size)
  unfold lettersAt
  have e : (s.extract k s.size).size = s.size - k := by simp [ByteArray.size_extract]
  omega
theorem lowS_size (s : ByteArray) : (lowS s).size = s.size := by
  show ((s.data.toList.map Lib.lowerB).toArray).size = s.data.size
  rw [List.size_toArray, List.length_map, Array.length_toList]
theorem chkF_fit (K : ByteArray → Bool) (s : ByteArray) : ∀ (f k : Nat), ∀ x ∈ chkF K s f k, x.1.size ≤ s.size
  | 0, _, x, h => by simp [chkF] at h
  | f + 1, k, x, h => by
    rw [chkF] at h
    by_cases hk : k < s.size
    · rw [if_pos hk] at h
      rcases List.mem_append.1 h with h | h
      · split at h
        · simp at h
          rw [h, lowS_size]
          simp [ByteArray.size_extract]
          omega
        · simp at h
      · exact chkF_fit K s f _ x h
    · rw [if_neg hk] at h
      simp at h
theorem take_tw511 {α : Type} (p : α → Bool) : ∀ l : List α, l.take (l.takeWhile p).length = l.takeWhile p
  | [] => rfl
  | a :: l => by
    rw [List.takeWhile_cons]
    split
    · rw [List.length_cons, List.take_succ_cons, take_tw511 p l]
    · rfl
theorem mem_tw511 {α : Type} {p : α → Bool} {x : α} : ∀ {l : List α}, x ∈ l.takeWhile p → p x = true
  | [], h => by simp at h
  | a :: l, h => by
    rw [List.takeWhile_cons] at h
    split at h
    · next ha =>
      rcases List.mem_cons.1 h with rfl | h
      · exact ha
      · exact mem_tw511 h
    · simp at h
theorem letters_ascii (s : ByteArray) (k : Nat) : ∀ (j : Nat) (b : UInt8), (s.extract k (k + lettersAt s k)).data.toList[j]? = some b → b.toNat < 128 := by
  intro j b hb
  have hm : b ∈ ((s.extract k s.size).data.toList.takeWhile isLet) := by
    have e : (s.extract k (k + lettersAt s k)).data.toList = (s.extract k s.size).data.toList.takeWhile isLet := by
      have h1 : (s.extract k s.size).data.toList = s.data.toList.drop k := by
        simp only [ByteArray.data_extract, Array.toList_extract, List.extract_eq_take_drop]
        exact List.take_of_length_le (by simp)
      have h2 : (s.extract k (k + lettersAt s k)).data.toList = (s.data.toList.drop k).take (lettersAt s k) := by
        simp only [ByteArray.data_extract, Array.toList_extract, List.extract_eq_take_drop]
        rw [show k + lettersAt s k - k = lettersAt s k by omega]
      rw [h2, h1]
      unfold lettersAt ahN
      rw [h1]
      exact take_tw511 _ _
    rw [← e]
    exact List.mem_of_getElem? hb
  have hl := mem_tw511 hm
  unfold isLet at hl
  simp only [Bool.or_eq_true, Bool.and_eq_true, decide_eq_true_eq] at hl
  omega
end Go.Proofs.YthedglgljehmgaaGreatDoor
/-
  impl.Check.
-/
namespace Go.Proofs.YthedglgljehmgaaGreatDoor
open Go.RowKit Go.Maps Go.WideMaps
set_option linter.unusedVariables false
set_option linter.unusedSimpArgs false
theorem unknown512 {xs : List Aff} {es : List (ByteArray × ByteArray)} {s : ByteArray} {zs : List Int} (h : zs = placesOf (pairsT xs es) s) : ((zs.length : Int) == 0) = !(knowsT xs es s) := by
  rw [knowsT_places, ← h]
  cases zs with
  | nil => rfl
  | cons a b => simp; omega
theorem Tryz.info_guess512 : (Tryz.prog.info? 33).map (fun i => (i.zero, i.size, i.bytes)) = some (some (.agg #[.string ⟨#[]⟩, .int .i64 0]), 2, 24) := by kernel_rfl
theorem gs_one512 (s : ByteArray) (n : Int) : ∀ u ∈ [Value.string s, Value.int .i64 n], u.oneCell' = true := by
  intro u hu
  simp at hu
  rcases hu with rfl | rfl <;> rfl
set_option maxRecDepth 100000 in
set_option maxHeartbeats 4000000 in
theorem implCheck_any (w : World) (va ve : Value) (xs : List Aff) (es : List (ByteArray × ByteArray)) (s : ByteArray) (ha : AffsAt w va xs) (he : EntsAt w ve es) (hs : s.size ≤ maxLen) :
    Calls Tryz.prog 6 #[.agg #[va, ve], .string s] w fun e w' => ∃ v, e = .returned v ∧ GuessOwn w.heap.size w'.heap.size w' v (chkR xs es s) ∧ Below w.heap.size w w' := by
  obtain ⟨a, cap, rfl, hc, hm⟩ := ha.form
  obtain ⟨a', cap', rfl, hc', hm'⟩ := he.form
  have HA : Hid (AffsAt w (.slice a xs.length cap) xs) := ha
  have HE : Hid (EntsAt w (.slice a' es.length cap') es) := he
  have HS : Hid (s.size ≤ maxLen) := hs
  clear ha he
  unfold maxLen at hs
  obtain ⟨W, hW⟩ : ∃ X, w.alloc (.cells #[.slice a xs.length cap, .slice a' es.length cap'] 26) = X := ⟨_, rfl⟩
  have HB0 : Hid (Below w.heap.size w W) := by show Below _ _ _; rw [← hW]; exact (Below.refl _ _).alloc (Nat.le_refl _) _
  have hz0 : W.heap.size = w.heap.size + 1 := by rw [← hW]; simp
  have N0 : Hid (W.heap[w.heap.size]? = some (.cells #[.slice a xs.length cap, .slice a' es.length cap'] 26 (0, 0))) := by show _ = _; rw [← hW]; exact heap_alloc_last w _
  have HX : Hid (∀ V, Below W.heap.size W V → V.cell? ⟨w.heap.size, 0, none⟩ = some (.slice a xs.length cap) ∧ V.cell? ⟨w.heap.size, 1, none⟩ = some (.slice a' es.length cap')) := fun V hV => by
    have e0 := (hV.block _ (by omega)).trans N0.out
    exact ⟨by rw [cell_of_row _ _ 0 _ _ _ e0]; rfl, by rw [cell_of_row _ _ 1 _ _ _ e0]; rfl⟩
  have HW : Hid (w.alloc (.cells #[.slice a xs.length cap, .slice a' es.length cap'] 26) = W) := hW
  have NIL : Hid (∀ V : World, GuessOwn w.heap.size V.heap.size V (.slice none 0 0) []) := fun V => ⟨⟨none, 0, rfl, Nat.le_refl _, Nat.zero_le _, fun hn => absurd rfl hn⟩, fun i x hx => by simp at hx⟩
  obtain ⟨x0, x1⟩ := HX.out W (Below.refl _ _)
  go_enter Tryz.func6, Tryz.ntmps6
  go_wp2_with fail
  try rw [HW.out]
  clear hW x0 x1
  refine (implBookOk_any W _ _ xs es (HA.out.below HB0.out) (HE.out.below HB0.out)).mono ?_
  rintro e w1 ⟨rfl, hb1⟩
  have B1 : Hid (Below W.heap.size W w1) := hb1
  have HB1 : Hid (Below w.heap.size w w1) := HB0.out.trans (hb1.mono (by omega))
  clear hb1
  cases hbk : bookT xs es with
  | false =>
    have HM : Hid (chkR xs es s = []) := by show _ = _; unfold chkR; rw [if_neg (by rw [hbk]; simp)]
    go_wp2
    go_ret
    exact ⟨_, rfl, by rw [HM.out]; exact NIL.out _, HB1.out⟩
  | true =>
    by_cases h3 : (300 : Int) < (s.size : Int)
    · have HM : Hid (chkR xs es s = []) := by show _ = _; unfold chkR; rw [if_neg (by omega)]
      go_wp2
      go_ret
      exact ⟨_, rfl, by rw [HM.out]; exact NIL.out _, HB1.out⟩
    · have hs3 : s.size ≤ 300 := by omega
      obtain ⟨K, hK⟩ : ∃ K, knowsT xs es = K := ⟨_, rfl⟩
      have HKE : Hid (knowsT xs es = K) := hK
      have HM : Hid (chkR xs es s = chkRest K s 0) := by show _ = _; unfold chkR; rw [if_pos ⟨hbk, hs3⟩, hK]; rfl
      obtain ⟨x0, x1⟩ := HX.out w1 B1.out
      clear hK
      go_wp2_with fail
      refine (wordStems_any _ _ _ xs es (HA.out.below HB1.out) (HE.out.below HB1.out)).mono ?_
      rintro e w2 ⟨n, D, rfl, hg, hn, ht, hb2, hz⟩
      obtain ⟨mb, hmb⟩ : ∃ b, w1.heap.size + 1 = b := ⟨_, rfl⟩
      obtain ⟨lo, hlo⟩ : ∃ b, w1.heap.size + 2 = b := ⟨_, rfl⟩
      rw [hmb, hlo] at hg
      have HT : Hid (Told Tryz.prog 9 D (pairsT xs es)) := ht
      have HG : Hid (World.ownsGroups (H := Unit) w2 Tryz.prog 9 lo 3 .i64 mb n D) := hg
      have HB2 : Hid (Below w.heap.size w w2) := HB1.out.trans (hb2.mono HB1.out.size)
      have hnm : n < maxLen := by unfold maxLen; omega
      obtain ⟨i3, hi3, hz3, hs3', hb3⟩ := info_parts Tryz.info_guess512
      rw [hmb]
      clear hg ht hb2 hz hn x0 x1 hmb hlo
      go_wp2_with fail
      go_loopw [6, 7] (fun lv i wr => ∃ (k : Nat) (R : List GuessM), k ≤ s.size + 1 ∧ i = .int .i64 k ∧ wr.ownsRow w2.heap.size 33 2 lv R.length (gsCells R) ∧ R ++ chkRest K s k = chkRest K s 0 ∧ R.length ≤ k ∧ Below w2.heap.size w2 wr) (fun _ i _ => s.size + 1 - (intOf i).toNat)
      case atStart => exact ⟨0, [], Nat.zero_le _, rfl, World.ownsRow_nil _ _ _ _, rfl, Nat.le_refl _, Below.refl _ _⟩
      case round =>
        obtain ⟨k, R, hk, rfl, ho, hR, hRk, hb⟩ := hrel
        have HO : Hid (wr.ownsRow w2.heap.size 33 2 u6 R.length (gsCells R)) := ho
        have HR : Hid (R ++ chkRest K s k = chkRest K s 0) := hR
        have HBr : Hid (Below w2.heap.size w2 wr) := hb
        clear ho hR hb
        by_cases hlt : k < s.size
        · have hlti : (k : Int) < (s.size : Int) := by omega
          have hle : (k : Int) ≤ (s.size : Int) := by omega
          have hk0 : (0 : Int) ≤ (k : Int) := by omega
          obtain ⟨Z, hZ⟩ : ∃ Z, s.extract k s.size = Z := ⟨_, rfl⟩
          have HZ : Hid (s.extract k s.size = Z) := hZ
          have hZs : Z.size ≤ 300 := by rw [← hZ]; simp [ByteArray.size_extract]; omega
          obtain ⟨N, hN⟩ : ∃ N, ahN Z.data.toList = N := ⟨_, rfl⟩
          have hLN : lettersAt s k = N := by unfold lettersAt; rw [hZ, hN]
          have hkN : k + N ≤ s.size := by rw [← hLN]; exact lettersAt_le s k (by omega)
          obtain ⟨P, hP⟩ : ∃ P, s.extract k (k + N) = P := ⟨_, rfl⟩
          have HP : Hid (s.extract k (k + N) = P) := hP
          have HASC : Hid (∀ (j : Nat) (b : UInt8), P.data.toList[j]? = some b → b.toNat < 128) := by
            have h9 := letters_ascii s k
            rw [hLN, hP] at h9
            exact h9
          have hPs : P.size ≤ 300 := by rw [← hP]; simp [ByteArray.size_extract]; omega
          obtain ⟨LW, hLW⟩ : ∃ t, lowS P = t := ⟨_, rfl⟩
          have HLW : Hid ((⟨(Lib.toLowerA P.data.toList).toArray⟩ : ByteArray) = LW) := hLW
          have hLs : LW.size ≤ maxLen := by rw [← hLW, lowS_size]; unfold maxLen; omega
          have HLs : Hid (LW.size ≤ maxLen) := hLs
          have HHIT : Hid (0 < N → K LW = false → chkRest K s k = (LW, (k : Int)) :: chkRest K s (k + N + 1)) := fun h1 h2 => by
            have h9 := chkRest_hit (K := K) hlt (by rw [hLN]; exact h1) (by rw [hLN, hP, hLW]; exact h2)
            rw [hLN, hP, hLW] at h9
            exact h9
          have HNOT : Hid (¬ (0 < N ∧ K LW = false) → chkRest K s k = chkRest K s (k + N + 1)) := fun h1 => by
            have h9 := chkRest_not (K := K) hlt (by rw [hLN, hP, hLW]; exact h1)
            rw [hLN] at h9
            exact h9
          have HNE : Hid (ahN Z.data.toList = N) := hN
          have q1 : IntKind.i64.wrap ((k : Int) + (N : Int)) = ((k + N : Nat) : Int) := by rw [IntWalk.i64_in _ (by omega)]; omega
          have q2 : IntKind.i64.wrap (((k + N : Nat) : Int) + 1) = ((k + N + 1 : Nat) : Int) := by rw [IntWalk.i64_in _ (by omega)]; omega
          have q3 : (k : Int) ≤ ((k + N : Nat) : Int) := by omega
          have q4 : ((k + N : Nat) : Int) ≤ (s.size : Int) := by omega
          have hkn1 : k + N + 1 ≤ s.size + 1 := by omega
          clear hZ hN hLN hP hLW hLs
          go_wp2_with fail
          try rw [HZ.out]
          refine (lettersAhead_any Z wr (by unfold maxLen; omega)).mono ?_
          rintro e w3 ⟨rfl, hw3⟩
          have hw4 := hw3.symm
          clear hw3
          subst hw4
          rw [HNE.out]
          go_wp2_with fail
          try rw [HP.out]
          refine (Tryz.strings_ToLower_ascii P _ (by omega) HASC.out).mono ?_
          rintro e w4 ⟨rfl, hb4⟩
          rw [HLW.out]
          have HB4 : Hid (Below w2.heap.size w2 w4) := HBr.out.trans (hb4.mono HBr.out.size)
          have HO4 : Hid (w4.ownsRow w2.heap.size 33 2 u6 R.length (gsCells R)) := owns_below HO.out hb4
          have HG4 : Hid (World.ownsGroups (H := Unit) w4 Tryz.prog 9 lo 3 .i64 mb n D) := groups_below HG.out HB4.out
          have hkey := keyOf_string_mk Tryz.underlying9 HLs.out
          have hz4 : w2.heap.size ≤ w4.heap.size := HB4.out.size
          obtain ⟨v, zs, hrun, hat, hoi, hzl, hback⟩ := World.ownsGroups.at (t := 56) HG4.out stemKey Tryz.underlying56 (zero_ints152 _) hnm hkey
          obtain ⟨b0, cq, rfl⟩ := owns_form hoi.1
          have hu := unknown512 (told_at HT.out hkey hoi hat)
          rw [HKE.out] at hu
          clear hb4 hat hoi hzl hback
          by_cases hN0 : 0 < N
          · have hN0i : (0 : Int) < (N : Int) := by omega
            cases hKL : K LW with
            | true =>
              rw [hKL] at hu
              have hu2 : ((zs.length : Int) == 0) = false := hu
              go_wp2
              go_roundw
              case rel => exact ⟨k + N + 1, R, hkn1, rfl, HO4.out, by rw [← HR.out, HNOT.out (fun h => by rw [hKL] at h; exact absurd h.2 (by decide))], by omega, HB4.out⟩
              case measure => simp [intOf]; omega
            | false =>
              rw [hKL] at hu
              have hu2 : ((zs.length : Int) == 0) = true := hu
              have HO5 : Hid ((w4.alloc (.cells #[.string LW, .int .i64 (k : Int)] 33)).ownsRow w2.heap.size 33 2 u6 R.length (gsCells R)) := owns_below HO4.out ((Below.refl _ _).alloc (Nat.le_refl _) _)
              go_wp2_with (first
                | (at_builtin; refine wpList_append_own _ rfl _ _ 29 rfl w2.heap.size 33 i3 (.agg #[.string ⟨#[]⟩, .int .i64 0]) 2 24 Tryz.underlying29 hi3 hz3 hs3' hb3 rfl (by decide) u6 R.length (gsCells R) rfl HO5.out ⟨w4.heap.size, 0, none⟩ 1 1 [.string LW, .int .i64 (k : Int)] rfl rfl (news_cells (heap_alloc_last _ _)) (gs_one512 LW k) (by unfold maxLen; omega) (by omega) (by rw [World.size_alloc]; omega) ?_; intro v' w5 hown hgrow hnil; have HO6 : Hid (w5.ownsRow w2.heap.size 33 2 v' (R ++ [(LW, (k : Int))]).length (gsCells (R ++ [(LW, (k : Int))]))) := (by rw [gsCells_append, gsCells_one, List.length_append]; exact hown); have HB5 : Hid (Below w2.heap.size w2 w5) := (HB4.out.alloc hz4 _).trans (below_of_grown hgrow (fun z hz => (World.ownsRow.lt HO5.out z hz).1) (by rw [World.size_alloc]; omega)); clear hown hgrow hnil)
                | fail)
              go_roundw
              case rel => exact ⟨k + N + 1, R ++ [(LW, (k : Int))], hkn1, rfl, HO6.out, by rw [← HR.out, HHIT.out hN0 hKL, List.append_assoc]; rfl, by rw [List.length_append]; simp; omega, HB5.out⟩
              case measure => simp [intOf]; omega
          · have hN00 : ¬ ((0 : Int) < (N : Int)) := by omega
            go_wp2
            go_roundw
            case rel => exact ⟨k + N + 1, R, hkn1, rfl, HO4.out, by rw [← HR.out, HNOT.out (fun h => hN0 h.1)], by omega, HB4.out⟩
            case measure => simp [intOf]; omega
        · have hlti : ¬ ((k : Int) < (s.size : Int)) := by omega
          have HRE : Hid (chkRest K s 0 = R) := by show _ = _; rw [← HR.out, chkRest_end (by omega), List.append_nil]
          go_wp2
          go_ret
          refine ⟨u6, rfl, ?_, HB2.out.trans (HBr.out.mono HB2.out.size)⟩
          rw [HM.out, HRE.out]
          refine guessOwn_of_owns (owns_lower HO.out HB2.out.size) (fun i x hx => ?_)
          have h9 := chkF_fit K s s.size 0 x (by show x ∈ chkRest K s 0; rw [HRE.out]; exact List.mem_of_getElem? hx)
          exact Nat.le_trans h9 HS.out
end Go.Proofs.YthedglgljehmgaaGreatDoor
/-
  Small letters made by the specification; letters at a place; spec.l4Letter, spec.l4Small.
-/
namespace Go.Proofs.YthedglgljehmgaaGreatDoor
open Go.RowKit
set_option linter.unusedVariables false
set_option linter.unusedSimpArgs false
def lwL (l : List UInt8) : List UInt8 := l.map Lib.lowerB
theorem lwB_nat (c : UInt8) (h1 : (65 : Int) ≤ (c.toNat : Int)) (h2 : (c.toNat : Int) ≤ 90) : (Lib.lowerB c).toNat = c.toNat + 32 := by
  have h : Lib.isUpperB c = true := by
    unfold Lib.isUpperB
    simp only [Bool.and_eq_true, decide_eq_true_eq, UInt8.le_iff_toNat_le]
    exact ⟨by show 65 ≤ c.toNat; omega, by show c.toNat ≤ 90; omega⟩
  unfold Lib.lowerB
  rw [if_pos h, UInt8.toNat_add]
  show (c.toNat + 32) % 256 = _
  omega
theorem lwB_else (c : UInt8) (h : ¬ ((65 : Int) ≤ (c.toNat : Int) ∧ (c.toNat : Int) ≤ 90)) : Lib.lowerB c = c := by
  unfold Lib.lowerB
  rw [if_neg]
  intro hu
  unfold Lib.isUpperB at hu
  simp only [Bool.and_eq_true, decide_eq_true_eq, UInt8.le_iff_toNat_le] at hu
  have h1 : 65 ≤ c.toNat := hu.1
  have h2 : c.toNat ≤ 90 := hu.2
  exact h ⟨by omega, by omega⟩
/-- The bytes of a text of which the first k are turned. -/
def lwTo (l : List UInt8) (k : Nat) : List UInt8 := lwL (l.take k) ++ l.drop k
theorem lwTo_length (l : List UInt8) (k : Nat) : (lwTo l k).length = l.length := by unfold lwTo lwL; simp; omega
theorem lwTo_zero (l : List UInt8) : lwTo l 0 = l := rfl
theorem lwTo_all (l : List UInt8) : lwTo l l.length = lwL l := by simp [lwTo]
theorem lwTo_at (l : List UInt8) (k : Nat) (h : k < l.length) : (lwTo l k)[k]? = some l[k] := by
  unfold lwTo lwL
  rw [List.getElem?_append_right (by simp; omega)]
  simp [Nat.min_eq_left (Nat.le_of_lt h)]
theorem lwTo_set (l : List UInt8) (k : Nat) (h : k < l.length) : lwTo l (k + 1) = (lwTo l k).set k (Lib.lowerB l[k]) := by
  unfold lwTo lwL
  have hl : ((l.take k).map Lib.lowerB).length = k := by simp; omega
  rw [List.set_append_right _ _ (by omega), hl, Nat.sub_self, List.take_succ_eq_append_getElem h, List.drop_eq_getElem_cons h, List.set_cons_zero, List.map_append, List.append_assoc]
  rfl
theorem lwTo_keep (l : List UInt8) (k : Nat) (h : k < l.length) (hn : Lib.lowerB l[k] = l[k]) : lwTo l (k + 1) = lwTo l k := by
  rw [lwTo_set l k h, hn]
  apply List.ext_getElem? ; intro i
  by_cases e : k = i
  · subst e; rw [lwTo_at l k h, List.getElem?_set_self (by rw [lwTo_length]; exact h)]
  · rw [List.getElem?_set_ne e]
theorem l4Letter_any (c : UInt8) (w : World) :
    Calls Tryz.prog 30 #[.int .u8 (c.toNat : Int)] w fun e w' => e = .returned (.bool (isLet c)) ∧ w' = w := by
  have hI : isLet c = ((decide (97 ≤ (c.toNat : Int)) && decide ((c.toNat : Int) ≤ 122)) || (decide (65 ≤ (c.toNat : Int)) && decide ((c.toNat : Int) ≤ 90))) := rfl
  have HI : Hid (isLet c = ((decide (97 ≤ (c.toNat : Int)) && decide ((c.toNat : Int) ≤ 122)) || (decide (65 ≤ (c.toNat : Int)) && decide ((c.toNat : Int) ≤ 90)))) := hI
  clear hI
  by_cases h1 : (97 : Int) ≤ (c.toNat : Int)
  · by_cases h2 : (c.toNat : Int) ≤ 122
    · go_enter Tryz.func30, Tryz.ntmps30
      go_wp2
      go_ret
      exact ⟨ret_bool (by rw [HI.out]; simp; omega), rfl⟩
    · have h3 : (65 : Int) ≤ (c.toNat : Int) := by omega
      have h4 : ¬ (c.toNat : Int) ≤ 90 := by omega
      go_enter Tryz.func30, Tryz.ntmps30
      go_wp2
      go_ret
      exact ⟨ret_bool (by rw [HI.out]; simp; omega), rfl⟩
  · by_cases h3 : (65 : Int) ≤ (c.toNat : Int)
    · by_cases h4 : (c.toNat : Int) ≤ 90
      · go_enter Tryz.func30, Tryz.ntmps30
        go_wp2
        go_ret
        exact ⟨ret_bool (by rw [HI.out]; simp; omega), rfl⟩
      · go_enter Tryz.func30, Tryz.ntmps30
        go_wp2
        go_ret
        exact ⟨ret_bool (by rw [HI.out]; simp; omega), rfl⟩
    · go_enter Tryz.func30, Tryz.ntmps30
      go_wp2
      go_ret
      exact ⟨ret_bool (by rw [HI.out]; simp; omega), rfl⟩
set_option maxHeartbeats 1000000 in
theorem l4Small_any (s : ByteArray) (w : World) (hs : s.size ≤ maxLen) :
    Calls Tryz.prog 31 #[.string s] w fun e w' => e = .returned (.string (lowS s)) ∧ Below w.heap.size w w' := by
  unfold maxLen at hs
  have hcv := fun w' : World => Lib.run_convert_string_bytes (P := Tryz.prog) w' 9 22 5 s Tryz.underlying9 Tryz.underlying22 Tryz.underlying5
  have HR0 : Hid (BytesRow (Lib.bytesWorld w 5 s) w.heap.size s.data.toList) := bytesRow_new w s
  have HB0 : Hid (Below w.heap.size w (Lib.bytesWorld w 5 s)) := below_bytes w s
  obtain ⟨W0, hW0⟩ : ∃ W0, Lib.bytesWorld w 5 s = W0 := ⟨_, rfl⟩
  have hcw := hcv w
  rw [hW0] at HR0 HB0 hcw
  clear hcv hW0
  generalize grownCap w s.size 0 5 = cap at hcw
  go_enter Tryz.func31, Tryz.ntmps31
  go_wp2
  go_loopw [4] (fun i wr => ∃ k : Nat, k ≤ s.size ∧ i = .int .i64 k ∧ BytesRow wr w.heap.size (lwTo s.data.toList k) ∧ Below w.heap.size w wr) (fun i _ => s.size - (intOf i).toNat)
  case atStart => exact ⟨0, Nat.zero_le _, rfl, HR0.out, HB0.out⟩
  case round =>
    obtain ⟨k, hk, rfl, hrow, hb⟩ := hrel
    have HR : Hid (BytesRow wr w.heap.size (lwTo s.data.toList k)) := hrow
    have HB : Hid (Below w.heap.size w wr) := hb
    clear hrow hb hcw
    by_cases hlt : k < s.size
    · have hlt' : k < s.data.toList.length := hlt
      have hc := HR.out.cell (lwTo_at s.data.toList k hlt')
      have d0 := hc.1
      have g0 := hc.2
      have HW : Hid (w.heap.size < wr.heap.size) := HR.out.lt
      have hbl : w.heap.size < wr.heap.size := HR.out.lt
      clear hc
      obtain ⟨c, hcq⟩ : ∃ c : UInt8, s.data.toList[k] = c := ⟨_, rfl⟩
      rw [hcq] at d0
      have HST : Hid (lwTo s.data.toList (k + 1) = (lwTo s.data.toList k).set k (Lib.lowerB c)) := by
        have := lwTo_set s.data.toList k hlt'
        rw [hcq] at this
        exact this
      have HKP : Hid (Lib.lowerB c = c → lwTo s.data.toList (k + 1) = lwTo s.data.toList k) := by
        intro h
        exact lwTo_keep s.data.toList k hlt' (by rw [hcq]; exact h)
      clear hcq
      by_cases h1 : (65 : Int) ≤ (c.toNat : Int)
      · by_cases h2 : (c.toNat : Int) ≤ 90
        · have HU : Hid (((Lib.lowerB c).toNat : Int) = (c.toNat : Int) + 32) := by
            have := lwB_nat c (by omega) (by omega)
            show ((Lib.lowerB c).toNat : Int) = _
            omega
          have hw : IntKind.u8.wrap ((c.toNat : Int) + 32) = (c.toNat : Int) + 32 := by simp [IntKind.wrap, IntKind.bits, IntKind.signed]; omega
          go_wp2
          go_roundw
          case rel =>
            refine ⟨k + 1, by omega, by go_num, ?_, HB.out.setCell (Nat.le_refl _) _⟩
            rw [HST.out, ← HU.out]
            exact HR.out.set k _
          case measure => simp [intOf]; omega
        · have HKQ : Hid (lwTo s.data.toList (k + 1) = lwTo s.data.toList k) := HKP.out (lwB_else c (by omega))
          go_wp2
          go_roundw
          case rel => exact ⟨k + 1, by omega, by go_num, by rw [HKQ.out]; exact HR.out, HB.out⟩
          case measure => simp [intOf]; omega
      · have HKQ : Hid (lwTo s.data.toList (k + 1) = lwTo s.data.toList k) := HKP.out (lwB_else c (by omega))
        go_wp2
        go_roundw
        case rel => exact ⟨k + 1, by omega, by go_num, by rw [HKQ.out]; exact HR.out, HB.out⟩
        case measure => simp [intOf]; omega
    · have hk2 : k = s.data.toList.length := by have : s.data.toList.length = s.size := rfl; omega
      have hu : lwTo s.data.toList k = lwL s.data.toList := by rw [hk2, lwTo_all]
      rw [hu] at HR
      have hul : (lwL s.data.toList).length = s.size := by simp [lwL]
      have hcv := run_convert_bytes_back (P := Tryz.prog) wr 22 9 5 ⟨w.heap.size, 0, none⟩ cap (lwL s.data.toList) Tryz.underlying22 Tryz.underlying5 Tryz.underlying9 (fun j hj => by rw [add_at, Nat.zero_add]; exact (HR.out.cell (List.getElem?_eq_getElem hj)).1)
      rw [hul] at hcv
      go_wp2
      go_ret
      exact ⟨ret_str rfl, HB.out⟩
end Go.Proofs.YthedglgljehmgaaGreatDoor
/-
  Words of a text that a book does not know: spec.Check.
-/
namespace Go.Proofs.YthedglgljehmgaaGreatDoor
open Go.RowKit
set_option linter.unusedVariables false
set_option linter.unusedSimpArgs false
def letAt (s : ByteArray) (j : Nat) : Bool := match s.data.toList[j]? with | some b => isLet b | none => false
theorem letAt_lt {s : ByteArray} {j : Nat} (h : j < s.size) : letAt s j = isLet s[j] := by
  unfold letAt
  rw [List.getElem?_eq_getElem (by simpa using h)]
  rfl
theorem tw_at514 : ∀ (l : List UInt8) (i : Nat), i < ahN l → ∃ b, l[i]? = some b ∧ isLet b = true
  | [], i, h => by simp [ahN] at h
  | a :: l, i, h => by
    unfold ahN at h
    rw [List.takeWhile_cons] at h
    split at h
    · next ha =>
      match i, h with
      | 0, _ => exact ⟨a, rfl, ha⟩
      | i + 1, h => exact tw_at514 l i (by unfold ahN; simpa using h)
    · simp at h
theorem tw_end514 : ∀ (l : List UInt8) (b : UInt8), l[ahN l]? = some b → isLet b = false
  | [], b, h => by simp at h
  | a :: l, b, h => by
    unfold ahN at h
    rw [List.takeWhile_cons] at h
    split at h
    · exact tw_end514 l b (by unfold ahN; simpa using h)
    · next ha =>
      simp at h
      rw [← h]
      simpa using ha
theorem la_drop (s : ByteArray) (k : Nat) : lettersAt s k = ahN (s.data.toList.drop k) := by
  have h1 : (s.extract k s.size).data.toList = s.data.toList.drop k := by
    simp only [ByteArray.data_extract, Array.toList_extract, List.extract_eq_take_drop]
    exact List.take_of_length_le (by simp)
  unfold lettersAt
  rw [h1]
theorem la_in {s : ByteArray} {k j : Nat} (h1 : k ≤ j) (h2 : j < k + lettersAt s k) : letAt s j = true := by
  rw [la_drop] at h2
  obtain ⟨b, hb, hl⟩ := tw_at514 _ (j - k) (show j - k < ahN (s.data.toList.drop k) by omega)
  rw [List.getElem?_drop, show k + (j - k) = j by omega] at hb
  unfold letAt
  rw [hb]
  exact hl
theorem la_end (s : ByteArray) (k : Nat) : letAt s (k + lettersAt s k) = false := by
  unfold letAt
  cases h : s.data.toList[k + lettersAt s k]? with
  | none => rfl
  | some b =>
    rw [la_drop] at h
    exact tw_end514 (s.data.toList.drop k) b (by rw [List.getElem?_drop]; exact h)
theorem la_zero {s : ByteArray} {k : Nat} (h : letAt s k = false) : lettersAt s k = 0 := by
  rcases Nat.eq_zero_or_pos (lettersAt s k) with h0 | h0
  · exact h0
  · have := la_in (s := s) (k := k) (j := k) (Nat.le_refl _) (by omega)
    rw [h] at this
    cases this
theorem la_pos {s : ByteArray} {k : Nat} (h : letAt s k = true) : 0 < lettersAt s k := by
  rcases Nat.eq_zero_or_pos (lettersAt s k) with h0 | h0
  · have := la_end s k
    rw [h0, Nat.add_zero, h] at this
    cases this
  · exact h0
def StI (s : ByteArray) (i p : Nat) : Prop :=
  (i = p ∧ (i = 0 ∨ letAt s (i - 1) = false)) ∨ (0 < i ∧ i < p ∧ p ≤ s.size + 1 ∧ (∀ j, i - 1 ≤ j → j + 1 < p → letAt s j = true) ∧ letAt s (p - 1) = false)
theorem st_le {s : ByteArray} {i p : Nat} (h : StI s i p) : i ≤ p := by
  rcases h with ⟨h, _⟩ | ⟨_, h, _⟩ <;> omega
theorem st_none {s : ByteArray} {i p : Nat} (h : StI s i p) (hi : i < s.size) (hl : letAt s i = false) : ∃ p', StI s (i + 1) p' ∧ ∀ K, chkRest K s p = chkRest K s p' := by
  rcases h with ⟨rfl, h⟩ | ⟨h1, h2, h3, h4, h5⟩
  · refine ⟨i + 1, .inl ⟨rfl, .inr (by rw [Nat.add_sub_cancel]; exact hl)⟩, fun K => ?_⟩
    have h9 := chkRest_not (K := K) hi (fun h => by rw [la_zero hl] at h; exact absurd h.1 (by omega))
    rw [la_zero hl, Nat.add_zero] at h9
    exact h9
  · have hp : p = i + 1 := by
      rcases Nat.lt_or_ge (i + 1) p with h9 | h9
      · rw [h4 i (by omega) h9] at hl; cases hl
      · omega
    subst hp
    exact ⟨i + 1, .inl ⟨rfl, .inr h5⟩, fun K => rfl⟩
theorem st_skip {s : ByteArray} {i p : Nat} (h : StI s i p) (h0 : 0 < i) (hl : letAt s i = true) (hb : letAt s (i - 1) = true) : StI s (i + 1) p := by
  rcases h with ⟨rfl, h⟩ | ⟨h1, h2, h3, h4, h5⟩
  · rcases h with h | h
    · omega
    · rw [hb] at h; cases h
  · have hp : i + 1 < p := by
      rcases Nat.lt_or_ge (i + 1) p with h9 | h9
      · exact h9
      · have e : p - 1 = i := by omega
        rw [e, hl] at h5; cases h5
    exact .inr ⟨by omega, hp, h3, fun j hj hj2 => h4 j (by omega) hj2, h5⟩
theorem st_word {s : ByteArray} {i p : Nat} (h : StI s i p) (hi : i < s.size) (hl : letAt s i = true) (hb : i = 0 ∨ letAt s (i - 1) = false) : p = i ∧ StI s (i + 1) (i + lettersAt s i + 1) := by
  have hp : p = i := by
    rcases h with ⟨rfl, h⟩ | ⟨h1, h2, h3, h4, h5⟩
    · rfl
    · rcases hb with hb | hb
      · omega
      · rw [h4 (i - 1) (Nat.le_refl _) (by omega)] at hb; cases hb
  have h1 := la_pos hl
  have h2 := lettersAt_le s i (by omega)
  refine ⟨hp, .inr ⟨by omega, by omega, by omega, fun j hj hj2 => la_in (k := i) (by omega) (by omega), ?_⟩⟩
  rw [Nat.add_sub_cancel]
  exact la_end s i
theorem TextRow.grown514 {w w' : World} {v u : Value} {ss : List ByteArray} {lo n : Nat} {xs : List Value} (h : TextRow w v ss) (ho : w.ownsRow lo 33 2 u n xs) (hg : w.grownBy w' u.ownBlock) : TextRow w' v ss := by
  obtain ⟨g, cap, hv, hc, hcell, cur, hcur⟩ := h
  have hne : some g ≠ u.ownBlock := by
    rcases ho.2 with ⟨rfl, _⟩ | ⟨g', cap', cur', rfl, _, hh, _⟩
    · simp [Value.ownBlock]
    · intro e
      have e2 : g = g' := by simpa [Value.ownBlock] using e
      rw [← e2, hcur] at hh
      simp at hh
  have hb : w'.heap[g]? = w.heap[g]? := hg.block g (lt_of_block hcur) hne
  exact ⟨g, cap, hv, hc, fun i s hs => (World.cell?_of_block (w := w) hb).trans (hcell i s hs), cur, hb.trans hcur⟩
set_option maxRecDepth 100000 in
set_option maxHeartbeats 2000000 in
theorem specCheck_any (w : World) (va ve : Value) (xs : List Aff) (es : List (ByteArray × ByteArray)) (s : ByteArray) (ha : AffsAt w va xs) (he : EntsAt w ve es) (hs : s.size ≤ maxLen) :
    Calls Tryz.prog 8 #[.agg #[va, ve], .string s] w fun e w' => ∃ v, e = .returned v ∧ GuessOwn w.heap.size w'.heap.size w' v (chkR xs es s) ∧ Below w.heap.size w w' := by
  obtain ⟨a, cap, rfl, hc, hm⟩ := ha.form
  obtain ⟨a', cap', rfl, hc', hm'⟩ := he.form
  have HA : Hid (AffsAt w (.slice a xs.length cap) xs) := ha
  have HE : Hid (EntsAt w (.slice a' es.length cap') es) := he
  have HS : Hid (s.size ≤ maxLen) := hs
  clear ha he
  unfold maxLen at hs
  obtain ⟨W, hW⟩ : ∃ X, (w.alloc (.cells #[.slice a xs.length cap, .slice a' es.length cap'] 26)).alloc (.cells #[] 33) = X := ⟨_, rfl⟩
  have HB0 : Hid (Below w.heap.size w W) := by show Below _ _ _; rw [← hW]; exact ((Below.refl _ _).alloc (Nat.le_refl _) _).alloc (by simp) _
  have hz0 : W.heap.size = w.heap.size + 1 + 1 := by rw [← hW]; simp
  have N0 : Hid (W.heap[w.heap.size]? = some (.cells #[.slice a xs.length cap, .slice a' es.length cap'] 26 (0, 0))) := by show _ = _; rw [← hW]; exact heap_alloc2_old _ _ _
  have NO : Hid (W.heap[w.heap.size + 1]? = some (.cells #[] 33 (0, 0))) := by show _ = _; rw [← hW]; exact heap_alloc2_new _ _ _
  have OW : Hid (W.ownsRow w.heap.size 33 2 (.slice (some ⟨w.heap.size + 1, 0, none⟩) 0 0) 0 []) := ⟨rfl, .inr ⟨w.heap.size + 1, 0, _, rfl, by omega, NO.out, Nat.le_refl _, Nat.zero_le _, rfl, rfl⟩⟩
  have HX : Hid (∀ V, Below W.heap.size W V → V.cell? ⟨w.heap.size, 0, none⟩ = some (.slice a xs.length cap) ∧ V.cell? ⟨w.heap.size, 1, none⟩ = some (.slice a' es.length cap')) := fun V hV => by
    have e0 := (hV.block _ (by omega)).trans N0.out
    exact ⟨by rw [cell_of_row _ _ 0 _ _ _ e0]; rfl, by rw [cell_of_row _ _ 1 _ _ _ e0]; rfl⟩
  have HW : Hid ((w.alloc (.cells #[.slice a xs.length cap, .slice a' es.length cap'] 26)).alloc (.cells #[] 33) = W) := hW
  have NIL : Hid (∀ V : World, Below W.heap.size W V → GuessOwn w.heap.size V.heap.size V (.slice (some ⟨w.heap.size + 1, 0, none⟩) 0 0) []) := fun V hV => guessOwn_of_owns (gs := []) (owns_below OW.out hV) (fun i x hx => by simp at hx)
  obtain ⟨x0, x1⟩ := HX.out W (Below.refl _ _)
  go_enter Tryz.func8, Tryz.ntmps8
  go_wp2_with fail
  try rw [HW.out]
  clear hW x0 x1
  refine (specBookOk_any W _ _ xs es (HA.out.below HB0.out) (HE.out.below HB0.out)).mono ?_
  rintro e w1 ⟨rfl, hb1⟩
  have B1 : Hid (Below W.heap.size W w1) := hb1
  have HB1 : Hid (Below w.heap.size w w1) := HB0.out.trans (hb1.mono (by omega))
  clear hb1
  cases hbk : bookT xs es with
  | false =>
    have HM : Hid (chkR xs es s = []) := by show _ = _; unfold chkR; rw [if_neg (by rw [hbk]; simp)]
    go_wp2
    go_ret
    exact ⟨_, rfl, by rw [HM.out]; exact NIL.out _ B1.out, HB1.out⟩
  | true =>
    by_cases h3 : (300 : Int) < (s.size : Int)
    · have HM : Hid (chkR xs es s = []) := by show _ = _; unfold chkR; rw [if_neg (by omega)]
      go_wp2
      go_ret
      exact ⟨_, rfl, by rw [HM.out]; exact NIL.out _ B1.out, HB1.out⟩
    · have hs3 : s.size ≤ 300 := by omega
      obtain ⟨K, hK⟩ : ∃ K, knowsT xs es = K := ⟨_, rfl⟩
      obtain ⟨WL, hWL⟩ : ∃ L, wordsTo xs es es.length = L := ⟨_, rfl⟩
      have HWK : Hid (∀ t, hasW WL t = K t) := fun t => by
        rw [← hWL, ← hK]
        unfold knowsT
        rw [hbk, Bool.true_and]
        have h1 := knowsTo_at xs es t es.length
        cases h : hasW (wordsTo xs es es.length) t with
        | true => exact ((mem_wordsTo xs es t _).1 ((hasW_iff _ _).1 h)).symm
        | false =>
          cases h2 : knowsTo xs es t es.length with
          | false => rfl
          | true =>
            have := (hasW_iff _ _).2 ((mem_wordsTo xs es t _).2 h2)
            rw [h] at this
            cases this
      have HM : Hid (chkR xs es s = chkRest K s 0) := by show _ = _; unfold chkR; rw [if_pos ⟨hbk, hs3⟩, hK]; rfl
      obtain ⟨x0, x1⟩ := HX.out w1 B1.out
      clear hK
      go_wp2_with fail
      refine (l2Words_any _ _ _ xs es (HA.out.below HB1.out) (HE.out.below HB1.out) hbk).mono ?_
      rintro e w2 ⟨v2, rfl, ht2, hb2⟩
      have HWS : Hid (WL.length ≤ 1000000 ∧ ∀ x ∈ WL, x.size ≤ 12) := by
        have h := wordsT_small xs es
        unfold wordsT at h
        rw [if_pos hbk, hWL] at h
        exact ⟨by omega, h.2⟩
      rw [hWL] at ht2
      have HT2 : Hid (TextRow w2 v2 WL) := ht2
      have HB2 : Hid (Below w.heap.size w w2) := HB1.out.trans (hb2.mono HB1.out.size)
      have HO2 : Hid (w2.ownsRow w.heap.size 33 2 (.slice (some ⟨w.heap.size + 1, 0, none⟩) 0 0) 0 []) := owns_below OW.out (B1.out.trans (hb2.mono B1.out.size))
      obtain ⟨i3, hi3, hz3, hs3', hb3⟩ := info_parts Tryz.info_guess512
      clear ht2 hb2 x0 x1 hWL
      go_wp2_with fail
      go_loopw [5, 7] (fun lv iv wr => ∃ (i p : Nat) (R : List GuessM), i ≤ s.size ∧ iv = .int .i64 i ∧ StI s i p ∧ wr.ownsRow w.heap.size 33 2 lv R.length (gsCells R) ∧ R ++ chkRest K s p = chkRest K s 0 ∧ R.length ≤ i ∧ TextRow wr v2 WL ∧ Below w.heap.size w wr) (fun _ iv _ => s.size - (intOf iv).toNat)
      case atStart => exact ⟨0, 0, [], Nat.zero_le _, rfl, .inl ⟨rfl, .inl rfl⟩, HO2.out, rfl, Nat.le_refl _, HT2.out, HB2.out⟩
      case round =>
        obtain ⟨i, p, R, hi, rfl, hst, ho, hR, hRi, ht, hb⟩ := hrel
        have HST : Hid (StI s i p) := hst
        have HO : Hid (wr.ownsRow w.heap.size 33 2 u5 R.length (gsCells R)) := ho
        have HR : Hid (R ++ chkRest K s p = chkRest K s 0) := hR
        have HTR : Hid (TextRow wr v2 WL) := ht
        have HBr : Hid (Below w.heap.size w wr) := hb
        clear hst ho hR ht hb
        by_cases hlt : i < s.size
        · have hlti : (i : Int) < (s.size : Int) := by omega
          have hi0 : (0 : Int) ≤ (i : Int) := by omega
          have q1 : IntKind.i64.wrap ((i : Int) + 1) = ((i + 1 : Nat) : Int) := by rw [IntWalk.i64_in _ (by omega)]; omega
          go_wp2_with fail
          refine (l4Letter_any s[i] wr).mono ?_
          rintro e w3 ⟨rfl, hw3⟩
          have hw4 := hw3.symm
          clear hw3
          subst hw4
          rw [← letAt_lt hlt]
          cases hl : letAt s i with
          | false =>
            obtain ⟨p', hp1, hp2⟩ := st_none HST.out hlt hl
            go_wp2
            go_roundw
            case rel => exact ⟨i + 1, p', R, by omega, rfl, hp1, HO.out, by rw [← hp2]; exact HR.out, by omega, HTR.out, HBr.out⟩
            case measure => simp [intOf]; omega
          | true =>
            by_cases h0 : 0 < i
            · obtain ⟨m, hm⟩ : ∃ m, i = m + 1 := ⟨i - 1, by omega⟩
              have h0i : (0 : Int) < (i : Int) := by omega
              have q0 : IntKind.i64.wrap ((i : Int) - 1) = (m : Int) := by rw [IntWalk.i64_in _ (by omega)]; omega
              have hmlt : m < s.size := by omega
              have hmi : (m : Int) < (s.size : Int) := by omega
              have hm0 : (0 : Int) ≤ (m : Int) := by omega
              have HMI : Hid (i - 1 = m) := by show _ = _; omega
              clear hm
              go_wp2_with fail
              refine (l4Letter_any s[m] wr).mono ?_
              rintro e w3 ⟨rfl, hw3⟩
              have hw4 := hw3.symm
              clear hw3
              subst hw4
              rw [← letAt_lt hmlt]
              cases hb : letAt s m with
              | true =>
                have HST3 : Hid (StI s (i + 1) p) := st_skip HST.out h0 hl (by rw [HMI.out]; exact hb)
                go_wp2
                go_roundw
                case rel => exact ⟨i + 1, p, R, by omega, rfl, HST3.out, HO.out, HR.out, by omega, HTR.out, HBr.out⟩
                case measure => simp [intOf]; omega
              | false =>
                have hw : i = 0 ∨ letAt s (i - 1) = false := .inr (by rw [HMI.out]; exact hb)
                clear hb HMI
                obtain ⟨hpi, hst2⟩ := st_word HST.out hlt hl hw
                have hpi2 := hpi.symm
                clear hpi
                subst hpi2
                obtain ⟨N, hN⟩ : ∃ N, lettersAt s i = N := ⟨_, rfl⟩
                have hN0 : 0 < N := by rw [← hN]; exact la_pos hl
                have hNle : i + N ≤ s.size := by rw [← hN]; exact lettersAt_le s i (by omega)
                rw [hN] at hst2
                have HST2 : Hid (StI s (i + 1) (i + N + 1)) := hst2
                obtain ⟨P, hP⟩ : ∃ P, s.extract i (i + N) = P := ⟨_, rfl⟩
                have HP : Hid (s.extract i (i + N) = P) := hP
                have hPs : P.size ≤ 300 := by rw [← hP]; simp [ByteArray.size_extract]; omega
                obtain ⟨LW, hLW⟩ : ∃ t, lowS P = t := ⟨_, rfl⟩
                have HLW : Hid (lowS P = LW) := hLW
                have HHIT : Hid (K LW = false → chkRest K s i = (LW, (i : Int)) :: chkRest K s (i + N + 1)) := fun h2 => by
                  have h9 := chkRest_hit (K := K) hlt (by rw [hN]; exact hN0) (by rw [hN, hP, hLW]; exact h2)
                  rw [hN, hP, hLW] at h9
                  exact h9
                have HNOT : Hid (¬ (0 < N ∧ K LW = false) → chkRest K s i = chkRest K s (i + N + 1)) := fun h1 => by
                  have h9 := chkRest_not (K := K) hlt (by rw [hN, hP, hLW]; exact h1)
                  rw [hN] at h9
                  exact h9
                have HIN : Hid (∀ j, i ≤ j → j < i + N → letAt s j = true) := fun j h1 h2 => la_in h1 (by rw [hN]; exact h2)
                have HEND : Hid (letAt s (i + N) = false) := by have h9 := la_end s i; rw [hN] at h9; exact h9
                obtain ⟨wo, hwo⟩ : ∃ x, x = wr := ⟨_, rfl⟩
                subst hwo
                obtain ⟨lv, hlv⟩ : ∃ x, x = u5 := ⟨_, rfl⟩
                subst hlv
                clear hst2 hP hLW hN hw hl HST
                go_wp2_with fail
                go_loopw [8] (fun kv wq => ∃ j : Nat, i ≤ j ∧ j ≤ i + N ∧ kv = .int .i64 j ∧ wq = wo) (fun kv _ => s.size - (intOf kv).toNat)
                case atStart => exact ⟨i, Nat.le_refl _, Nat.le_add_right _ _, rfl, rfl⟩
                case round =>
                  obtain ⟨j, hj1, hj2, rfl, hwq⟩ := hrel
                  have hwq2 := hwq.symm
                  clear hwq
                  subst hwq2
                  by_cases hjl : j < s.size
                  · have hjli : (j : Int) < (s.size : Int) := by omega
                    have hj0 : (0 : Int) ≤ (j : Int) := by omega
                    have q2 : IntKind.i64.wrap ((j : Int) + 1) = ((j + 1 : Nat) : Int) := by rw [IntWalk.i64_in _ (by omega)]; omega
                    go_wp2_with fail
                    refine (l4Letter_any s[j] wo).mono ?_
                    rintro e w3 ⟨rfl, hw3⟩
                    have hw4 := hw3.symm
                    clear hw3
                    subst hw4
                    rw [← letAt_lt hjl]
                    cases hlj : letAt s j with
                    | true =>
                      have hjn : j < i + N := by
                        rcases Nat.lt_or_ge j (i + N) with h9 | h9
                        · exact h9
                        · have e : j = i + N := by omega
                          rw [e, HEND.out] at hlj
                          cases hlj
                      go_wp2
                      go_roundw
                      case rel => exact ⟨j + 1, by omega, by omega, rfl, by first | rfl | trivial⟩
                      case measure => simp [intOf]; omega
                    | false =>
                      have hje : j = i + N := by
                        rcases Nat.lt_or_ge j (i + N) with h9 | h9
                        · rw [HIN.out j hj1 h9] at hlj
                          cases hlj
                        · omega
                      clear hlj
                      subst hje
                      have g1 : (i : Int) ≤ ((i + N : Nat) : Int) := by omega
                      have g2 : ((i + N : Nat) : Int) ≤ (s.size : Int) := by omega
                      go_wp2_with fail
                      try rw [HP.out]
                      refine (l4Small_any P wo (by unfold maxLen; omega)).mono ?_
                      rintro e w5 ⟨rfl, hb5⟩
                      rw [HLW.out]
                      have HO5 : Hid (w5.ownsRow w.heap.size 33 2 lv R.length (gsCells R)) := owns_below HO.out hb5
                      have HTR5 : Hid (TextRow w5 v2 WL) := HTR.out.below hb5
                      have HB5 : Hid (Below w.heap.size w w5) := HBr.out.trans (hb5.mono HBr.out.size)
                      have hz5 : w.heap.size ≤ w5.heap.size := HB5.out.size
                      clear hb5
                      go_wp2_with fail
                      refine (l2In_any w5 v2 WL LW (textRow_at HTR5.out HWS.out.1 HWS.out.2)).mono ?_
                      rintro e w6 ⟨rfl, hw6⟩
                      have hw7 := hw6.symm
                      clear hw6
                      subst hw7
                      rw [HWK.out]
                      cases hKL : K LW with
                      | true =>
                        go_wp2
                        go_roundw
                        case rel => exact ⟨i + 1, i + N + 1, R, by omega, rfl, HST2.out, HO5.out, by rw [← HR.out, HNOT.out (fun h => by rw [hKL] at h; exact absurd h.2 (by decide))], by omega, HTR5.out, HB5.out⟩
                        case measure => simp [intOf]; omega
                      | false =>
                        have HO6 : Hid ((w5.alloc (.cells #[.string LW, .int .i64 (i : Int)] 33)).ownsRow w.heap.size 33 2 lv R.length (gsCells R)) := owns_below HO5.out ((Below.refl _ _).alloc (Nat.le_refl _) _)
                        have HTR6 : Hid (TextRow (w5.alloc (.cells #[.string LW, .int .i64 (i : Int)] 33)) v2 WL) := HTR5.out.below ((Below.refl _ _).alloc (Nat.le_refl _) _)
                        go_wp2_with (first
                          | (at_builtin; refine wpList_append_own _ rfl _ _ 29 rfl w.heap.size 33 i3 (.agg #[.string ⟨#[]⟩, .int .i64 0]) 2 24 Tryz.underlying29 hi3 hz3 hs3' hb3 rfl (by decide) lv R.length (gsCells R) rfl HO6.out ⟨w5.heap.size, 0, none⟩ 1 1 [.string LW, .int .i64 (i : Int)] rfl rfl (news_cells (heap_alloc_last _ _)) (gs_one512 LW i) (by unfold maxLen; omega) (by omega) (by rw [World.size_alloc]; omega) ?_; intro v' w7 hown hgrow hnil; have HO7 : Hid (w7.ownsRow w.heap.size 33 2 v' (R ++ [(LW, (i : Int))]).length (gsCells (R ++ [(LW, (i : Int))]))) := (by rw [gsCells_append, gsCells_one, List.length_append]; exact hown); have HTR7 : Hid (TextRow w7 v2 WL) := HTR6.out.grown514 HO6.out hgrow; have HB7 : Hid (Below w.heap.size w w7) := (HB5.out.alloc hz5 _).trans (below_of_grown hgrow (fun z hz => (World.ownsRow.lt HO6.out z hz).1) (by rw [World.size_alloc]; omega)); clear hown hgrow hnil)
                          | fail)
                        go_roundw
                        case rel => exact ⟨i + 1, i + N + 1, R ++ [(LW, (i : Int))], by omega, rfl, HST2.out, HO7.out, by rw [← HR.out, HHIT.out hKL, List.append_assoc]; rfl, by rw [List.length_append]; simp; omega, HTR7.out, HB7.out⟩
                        case measure => simp [intOf]; omega
                  · have hjli : ¬ ((j : Int) < (s.size : Int)) := by omega
                    have hje : j = i + N := by omega
                    subst hje
                    have g1 : (i : Int) ≤ ((i + N : Nat) : Int) := by omega
                    have g2 : ((i + N : Nat) : Int) ≤ (s.size : Int) := by omega
                    go_wp2_with fail
                    try rw [HP.out]
                    refine (l4Small_any P wo (by unfold maxLen; omega)).mono ?_
                    rintro e w5 ⟨rfl, hb5⟩
                    rw [HLW.out]
                    have HO5 : Hid (w5.ownsRow w.heap.size 33 2 lv R.length (gsCells R)) := owns_below HO.out hb5
                    have HTR5 : Hid (TextRow w5 v2 WL) := HTR.out.below hb5
                    have HB5 : Hid (Below w.heap.size w w5) := HBr.out.trans (hb5.mono HBr.out.size)
                    have hz5 : w.heap.size ≤ w5.heap.size := HB5.out.size
                    clear hb5
                    go_wp2_with fail
                    refine (l2In_any w5 v2 WL LW (textRow_at HTR5.out HWS.out.1 HWS.out.2)).mono ?_
                    rintro e w6 ⟨rfl, hw6⟩
                    have hw7 := hw6.symm
                    clear hw6
                    subst hw7
                    rw [HWK.out]
                    cases hKL : K LW with
                    | true =>
                      go_wp2
                      go_roundw
                      case rel => exact ⟨i + 1, i + N + 1, R, by omega, rfl, HST2.out, HO5.out, by rw [← HR.out, HNOT.out (fun h => by rw [hKL] at h; exact absurd h.2 (by decide))], by omega, HTR5.out, HB5.out⟩
                      case measure => simp [intOf]; omega
                    | false =>
                      have HO6 : Hid ((w5.alloc (.cells #[.string LW, .int .i64 (i : Int)] 33)).ownsRow w.heap.size 33 2 lv R.length (gsCells R)) := owns_below HO5.out ((Below.refl _ _).alloc (Nat.le_refl _) _)
                      have HTR6 : Hid (TextRow (w5.alloc (.cells #[.string LW, .int .i64 (i : Int)] 33)) v2 WL) := HTR5.out.below ((Below.refl _ _).alloc (Nat.le_refl _) _)
                      go_wp2_with (first
                        | (at_builtin; refine wpList_append_own _ rfl _ _ 29 rfl w.heap.size 33 i3 (.agg #[.string ⟨#[]⟩, .int .i64 0]) 2 24 Tryz.underlying29 hi3 hz3 hs3' hb3 rfl (by decide) lv R.length (gsCells R) rfl HO6.out ⟨w5.heap.size, 0, none⟩ 1 1 [.string LW, .int .i64 (i : Int)] rfl rfl (news_cells (heap_alloc_last _ _)) (gs_one512 LW i) (by unfold maxLen; omega) (by omega) (by rw [World.size_alloc]; omega) ?_; intro v' w7 hown hgrow hnil; have HO7 : Hid (w7.ownsRow w.heap.size 33 2 v' (R ++ [(LW, (i : Int))]).length (gsCells (R ++ [(LW, (i : Int))]))) := (by rw [gsCells_append, gsCells_one, List.length_append]; exact hown); have HTR7 : Hid (TextRow w7 v2 WL) := HTR6.out.grown514 HO6.out hgrow; have HB7 : Hid (Below w.heap.size w w7) := (HB5.out.alloc hz5 _).trans (below_of_grown hgrow (fun z hz => (World.ownsRow.lt HO6.out z hz).1) (by rw [World.size_alloc]; omega)); clear hown hgrow hnil)
                        | fail)
                      go_roundw
                      case rel => exact ⟨i + 1, i + N + 1, R ++ [(LW, (i : Int))], by omega, rfl, HST2.out, HO7.out, by rw [← HR.out, HHIT.out hKL, List.append_assoc]; rfl, by rw [List.length_append]; simp; omega, HTR7.out, HB7.out⟩
                      case measure => simp [intOf]; omega
            · have h0i : ¬ ((0 : Int) < (i : Int)) := by omega
              have hw : i = 0 ∨ letAt s (i - 1) = false := .inl (by omega)
              obtain ⟨hpi, hst2⟩ := st_word HST.out hlt hl hw
              have hpi2 := hpi.symm
              clear hpi
              subst hpi2
              obtain ⟨N, hN⟩ : ∃ N, lettersAt s i = N := ⟨_, rfl⟩
              have hN0 : 0 < N := by rw [← hN]; exact la_pos hl
              have hNle : i + N ≤ s.size := by rw [← hN]; exact lettersAt_le s i (by omega)
              rw [hN] at hst2
              have HST2 : Hid (StI s (i + 1) (i + N + 1)) := hst2
              obtain ⟨P, hP⟩ : ∃ P, s.extract i (i + N) = P := ⟨_, rfl⟩
              have HP : Hid (s.extract i (i + N) = P) := hP
              have hPs : P.size ≤ 300 := by rw [← hP]; simp [ByteArray.size_extract]; omega
              obtain ⟨LW, hLW⟩ : ∃ t, lowS P = t := ⟨_, rfl⟩
              have HLW : Hid (lowS P = LW) := hLW
              have HHIT : Hid (K LW = false → chkRest K s i = (LW, (i : Int)) :: chkRest K s (i + N + 1)) := fun h2 => by
                have h9 := chkRest_hit (K := K) hlt (by rw [hN]; exact hN0) (by rw [hN, hP, hLW]; exact h2)
                rw [hN, hP, hLW] at h9
                exact h9
              have HNOT : Hid (¬ (0 < N ∧ K LW = false) → chkRest K s i = chkRest K s (i + N + 1)) := fun h1 => by
                have h9 := chkRest_not (K := K) hlt (by rw [hN, hP, hLW]; exact h1)
                rw [hN] at h9
                exact h9
              have HIN : Hid (∀ j, i ≤ j → j < i + N → letAt s j = true) := fun j h1 h2 => la_in h1 (by rw [hN]; exact h2)
              have HEND : Hid (letAt s (i + N) = false) := by have h9 := la_end s i; rw [hN] at h9; exact h9
              obtain ⟨wo, hwo⟩ : ∃ x, x = wr := ⟨_, rfl⟩
              subst hwo
              obtain ⟨lv, hlv⟩ : ∃ x, x = u5 := ⟨_, rfl⟩
              subst hlv
              clear hst2 hP hLW hN hw hl HST
              go_wp2_with fail
              go_loopw [8] (fun kv wq => ∃ j : Nat, i ≤ j ∧ j ≤ i + N ∧ kv = .int .i64 j ∧ wq = wo) (fun kv _ => s.size - (intOf kv).toNat)
              case atStart => exact ⟨i, Nat.le_refl _, Nat.le_add_right _ _, rfl, rfl⟩
              case round =>
                obtain ⟨j, hj1, hj2, rfl, hwq⟩ := hrel
                have hwq2 := hwq.symm
                clear hwq
                subst hwq2
                by_cases hjl : j < s.size
                · have hjli : (j : Int) < (s.size : Int) := by omega
                  have hj0 : (0 : Int) ≤ (j : Int) := by omega
                  have q2 : IntKind.i64.wrap ((j : Int) + 1) = ((j + 1 : Nat) : Int) := by rw [IntWalk.i64_in _ (by omega)]; omega
                  go_wp2_with fail
                  refine (l4Letter_any s[j] wo).mono ?_
                  rintro e w3 ⟨rfl, hw3⟩
                  have hw4 := hw3.symm
                  clear hw3
                  subst hw4
                  rw [← letAt_lt hjl]
                  cases hlj : letAt s j with
                  | true =>
                    have hjn : j < i + N := by
                      rcases Nat.lt_or_ge j (i + N) with h9 | h9
                      · exact h9
                      · have e : j = i + N := by omega
                        rw [e, HEND.out] at hlj
                        cases hlj
                    go_wp2
                    go_roundw
                    case rel => exact ⟨j + 1, by omega, by omega, rfl, by first | rfl | trivial⟩
                    case measure => simp [intOf]; omega
                  | false =>
                    have hje : j = i + N := by
                      rcases Nat.lt_or_ge j (i + N) with h9 | h9
                      · rw [HIN.out j hj1 h9] at hlj
                        cases hlj
                      · omega
                    clear hlj
                    subst hje
                    have g1 : (i : Int) ≤ ((i + N : Nat) : Int) := by omega
                    have g2 : ((i + N : Nat) : Int) ≤ (s.size : Int) := by omega
                    go_wp2_with fail
                    try rw [HP.out]
                    refine (l4Small_any P wo (by unfold maxLen; omega)).mono ?_
                    rintro e w5 ⟨rfl, hb5⟩
                    rw [HLW.out]
                    have HO5 : Hid (w5.ownsRow w.heap.size 33 2 lv R.length (gsCells R)) := owns_below HO.out hb5
                    have HTR5 : Hid (TextRow w5 v2 WL) := HTR.out.below hb5
                    have HB5 : Hid (Below w.heap.size w w5) := HBr.out.trans (hb5.mono HBr.out.size)
                    have hz5 : w.heap.size ≤ w5.heap.size := HB5.out.size
                    clear hb5
                    go_wp2_with fail
                    refine (l2In_any w5 v2 WL LW (textRow_at HTR5.out HWS.out.1 HWS.out.2)).mono ?_
                    rintro e w6 ⟨rfl, hw6⟩
                    have hw7 := hw6.symm
                    clear hw6
                    subst hw7
                    rw [HWK.out]
                    cases hKL : K LW with
                    | true =>
                      go_wp2
                      go_roundw
                      case rel => exact ⟨i + 1, i + N + 1, R, by omega, rfl, HST2.out, HO5.out, by rw [← HR.out, HNOT.out (fun h => by rw [hKL] at h; exact absurd h.2 (by decide))], by omega, HTR5.out, HB5.out⟩
                      case measure => simp [intOf]; omega
                    | false =>
                      have HO6 : Hid ((w5.alloc (.cells #[.string LW, .int .i64 (i : Int)] 33)).ownsRow w.heap.size 33 2 lv R.length (gsCells R)) := owns_below HO5.out ((Below.refl _ _).alloc (Nat.le_refl _) _)
                      have HTR6 : Hid (TextRow (w5.alloc (.cells #[.string LW, .int .i64 (i : Int)] 33)) v2 WL) := HTR5.out.below ((Below.refl _ _).alloc (Nat.le_refl _) _)
                      go_wp2_with (first
                        | (at_builtin; refine wpList_append_own _ rfl _ _ 29 rfl w.heap.size 33 i3 (.agg #[.string ⟨#[]⟩, .int .i64 0]) 2 24 Tryz.underlying29 hi3 hz3 hs3' hb3 rfl (by decide) lv R.length (gsCells R) rfl HO6.out ⟨w5.heap.size, 0, none⟩ 1 1 [.string LW, .int .i64 (i : Int)] rfl rfl (news_cells (heap_alloc_last _ _)) (gs_one512 LW i) (by unfold maxLen; omega) (by omega) (by rw [World.size_alloc]; omega) ?_; intro v' w7 hown hgrow hnil; have HO7 : Hid (w7.ownsRow w.heap.size 33 2 v' (R ++ [(LW, (i : Int))]).length (gsCells (R ++ [(LW, (i : Int))]))) := (by rw [gsCells_append, gsCells_one, List.length_append]; exact hown); have HTR7 : Hid (TextRow w7 v2 WL) := HTR6.out.grown514 HO6.out hgrow; have HB7 : Hid (Below w.heap.size w w7) := (HB5.out.alloc hz5 _).trans (below_of_grown hgrow (fun z hz => (World.ownsRow.lt HO6.out z hz).1) (by rw [World.size_alloc]; omega)); clear hown hgrow hnil)
                        | fail)
                      go_roundw
                      case rel => exact ⟨i + 1, i + N + 1, R ++ [(LW, (i : Int))], by omega, rfl, HST2.out, HO7.out, by rw [← HR.out, HHIT.out hKL, List.append_assoc]; rfl, by rw [List.length_append]; simp; omega, HTR7.out, HB7.out⟩
                      case measure => simp [intOf]; omega
                · have hjli : ¬ ((j : Int) < (s.size : Int)) := by omega
                  have hje : j = i + N := by omega
                  subst hje
                  have g1 : (i : Int) ≤ ((i + N : Nat) : Int) := by omega
                  have g2 : ((i + N : Nat) : Int) ≤ (s.size : Int) := by omega
                  go_wp2_with fail
                  try rw [HP.out]
                  refine (l4Small_any P wo (by unfold maxLen; omega)).mono ?_
                  rintro e w5 ⟨rfl, hb5⟩
                  rw [HLW.out]
                  have HO5 : Hid (w5.ownsRow w.heap.size 33 2 lv R.length (gsCells R)) := owns_below HO.out hb5
                  have HTR5 : Hid (TextRow w5 v2 WL) := HTR.out.below hb5
                  have HB5 : Hid (Below w.heap.size w w5) := HBr.out.trans (hb5.mono HBr.out.size)
                  have hz5 : w.heap.size ≤ w5.heap.size := HB5.out.size
                  clear hb5
                  go_wp2_with fail
                  refine (l2In_any w5 v2 WL LW (textRow_at HTR5.out HWS.out.1 HWS.out.2)).mono ?_
                  rintro e w6 ⟨rfl, hw6⟩
                  have hw7 := hw6.symm
                  clear hw6
                  subst hw7
                  rw [HWK.out]
                  cases hKL : K LW with
                  | true =>
                    go_wp2
                    go_roundw
                    case rel => exact ⟨i + 1, i + N + 1, R, by omega, rfl, HST2.out, HO5.out, by rw [← HR.out, HNOT.out (fun h => by rw [hKL] at h; exact absurd h.2 (by decide))], by omega, HTR5.out, HB5.out⟩
                    case measure => simp [intOf]; omega
                  | false =>
                    have HO6 : Hid ((w5.alloc (.cells #[.string LW, .int .i64 (i : Int)] 33)).ownsRow w.heap.size 33 2 lv R.length (gsCells R)) := owns_below HO5.out ((Below.refl _ _).alloc (Nat.le_refl _) _)
                    have HTR6 : Hid (TextRow (w5.alloc (.cells #[.string LW, .int .i64 (i : Int)] 33)) v2 WL) := HTR5.out.below ((Below.refl _ _).alloc (Nat.le_refl _) _)
                    go_wp2_with (first
                      | (at_builtin; refine wpList_append_own _ rfl _ _ 29 rfl w.heap.size 33 i3 (.agg #[.string ⟨#[]⟩, .int .i64 0]) 2 24 Tryz.underlying29 hi3 hz3 hs3' hb3 rfl (by decide) lv R.length (gsCells R) rfl HO6.out ⟨w5.heap.size, 0, none⟩ 1 1 [.string LW, .int .i64 (i : Int)] rfl rfl (news_cells (heap_alloc_last _ _)) (gs_one512 LW i) (by unfold maxLen; omega) (by omega) (by rw [World.size_alloc]; omega) ?_; intro v' w7 hown hgrow hnil; have HO7 : Hid (w7.ownsRow w.heap.size 33 2 v' (R ++ [(LW, (i : Int))]).length (gsCells (R ++ [(LW, (i : Int))]))) := (by rw [gsCells_append, gsCells_one, List.length_append]; exact hown); have HTR7 : Hid (TextRow w7 v2 WL) := HTR6.out.grown514 HO6.out hgrow; have HB7 : Hid (Below w.heap.size w w7) := (HB5.out.alloc hz5 _).trans (below_of_grown hgrow (fun z hz => (World.ownsRow.lt HO6.out z hz).1) (by rw [World.size_alloc]; omega)); clear hown hgrow hnil)
                      | fail)
                    go_roundw
                    case rel => exact ⟨i + 1, i + N + 1, R ++ [(LW, (i : Int))], by omega, rfl, HST2.out, HO7.out, by rw [← HR.out, HHIT.out hKL, List.append_assoc]; rfl, by rw [List.length_append]; simp; omega, HTR7.out, HB7.out⟩
                    case measure => simp [intOf]; omega
        · have hie : i = s.size := by omega
          have hlti : ¬ ((i : Int) < (s.size : Int)) := by omega
          have HRE : Hid (chkRest K s 0 = R) := by show _ = _; rw [← HR.out, chkRest_end (by have := st_le HST.out; omega), List.append_nil]
          go_wp2
          go_ret
          refine ⟨u5, rfl, ?_, HBr.out⟩
          rw [HM.out, HRE.out]
          refine guessOwn_of_owns HO.out (fun j x hx => ?_)
          have h9 := chkF_fit K s s.size 0 x (by show x ∈ chkRest K s 0; rw [HRE.out]; exact List.mem_of_getElem? hx)
          exact Nat.le_trans h9 HS.out
end Go.Proofs.YthedglgljehmgaaGreatDoor
/-
  How many words of a text a book does not know, at most.
-/
namespace Go.Proofs.YthedglgljehmgaaGreatDoor
open Go.RowKit
set_option linter.unusedVariables false
theorem chkF_len (K : ByteArray → Bool) (s : ByteArray) : ∀ (f k : Nat), (chkF K s f k).length ≤ f
  | 0, _ => Nat.le_refl _
  | f + 1, k => by
    rw [chkF]
    by_cases hk : k < s.size
    · rw [if_pos hk, List.length_append]
      have h1 := chkF_len K s f (k + lettersAt s k + 1)
      split
      · simp; omega
      · simp; omega
    · rw [if_neg hk]
      exact Nat.zero_le _
theorem chkR_small (xs : List Aff) (es : List (ByteArray × ByteArray)) (s : ByteArray) : (chkR xs es s).length ≤ 1048576 := by
  unfold chkR
  split
  · next h => exact Nat.le_trans (chkF_len _ _ _ _) (by omega)
  · exact Nat.zero_le _
theorem specCheckAt_any (w : World) (va ve : Value) (xs : List Aff) (es : List (ByteArray × ByteArray)) (s : ByteArray) (ha : AffsAt w va xs) (he : EntsAt w ve es) (hs : s.size ≤ maxLen) :
    Calls Tryz.prog 8 #[.agg #[va, ve], .string s] w fun e w' => ∃ v, e = .returned v ∧ GuessAt w' v (chkR xs es s) ∧ Below w.heap.size w w' := by
  refine (specCheck_any w va ve xs es s ha he hs).mono ?_
  rintro e w' ⟨v, h1, h2, h3⟩
  exact ⟨v, h1, h2.at, h3⟩
end Go.Proofs.YthedglgljehmgaaGreatDoor
