/-
  The words that an entry makes: spec.l2Has, l2One.
-/
import Derived.Test.YthedglgljehmgaaGreatDoorM27
import Derived.Test.YthedglgljehmgaaGreatDoorW13
import Derived.Test.YthedglgljehmgaaGreatDoorGW27
import Derived.Test.YthedglgljehmgaaGreatDoorW70
import Derived.Test.YthedglgljehmgaaGreatDoorGW92
import Derived.Test.YthedglgljehmgaaGreatDoorGW78
import Derived.Test.YthedglgljehmgaaGreatDoorGW4
namespace Go.Proofs.YthedglgljehmgaaGreatDoor
open Go.RowKit
set_option linter.unusedVariables false
theorem flagIn_no {fl f : ByteArray} (h : ∀ i, i < fl.size → ((fl.extract i (i + 1)).toList == f.toList) = false) : flagIn fl f = false := by
  unfold flagIn
  rw [List.any_eq_false]
  intro i hi
  rw [h i (List.mem_range.1 hi)]
  simp
theorem flagIn_yes {fl f : ByteArray} {i : Nat} (hi : i < fl.size) (h : ((fl.extract i (i + 1)).toList == f.toList) = true) : flagIn fl f = true :=
  List.any_eq_true.2 ⟨i, List.mem_range.2 hi, h⟩
set_option maxHeartbeats 1000000 in
theorem l2Has_any (fl f : ByteArray) (w : World) (hm : fl.size ≤ maxLen) :
    Calls Tryz.prog 103 #[.string fl, .string f] w fun e w' => e = .returned (.bool (flagIn fl f)) ∧ w' = w := by
  unfold maxLen at hm
  go_enter Tryz.func103, Tryz.ntmps103
  go_wp2
  go_loop [5] (fun i => ∃ k : Nat, k ≤ fl.size ∧ i = .int .i64 k ∧ ∀ j, j < k → ((fl.extract j (j + 1)).toList == f.toList) = false) (fun i => fl.size - (intOf i).toNat)
  case atStart => exact ⟨0, Nat.zero_le _, rfl, fun j hj => absurd hj (by omega)⟩
  case round =>
    obtain ⟨k, hk, rfl, hno⟩ := hrel
    have HN : Hid (∀ j, j < k → ((fl.extract j (j + 1)).toList == f.toList) = false) := hno
    clear hno
    by_cases hlt : k < fl.size
    · cases he : ((fl.extract k (k + 1)).toList == f.toList) with
      | true =>
        have HF : Hid (flagIn fl f = true) := flagIn_yes hlt he
        go_wp2
        go_ret
        exact ⟨(congrArg (fun b => Ending.returned (.bool b)) HF.out).symm, rfl⟩
      | false =>
        have HN2 : Hid (∀ j, j < k + 1 → ((fl.extract j (j + 1)).toList == f.toList) = false) := fun j hj => by
          by_cases e : j = k
          · rw [e]; exact he
          · exact HN.out j (by omega)
        go_wp2
        go_round
        case rel => exact ⟨k + 1, by omega, by go_num, HN2.out⟩
        case measure => simp [intOf]; omega
    · have HF : Hid (flagIn fl f = false) := flagIn_no fun i hi => HN.out i (by omega)
      go_wp2
      go_ret
      exact ⟨(congrArg (fun b => Ending.returned (.bool b)) HF.out).symm, rfl⟩
theorem l2Do_no {a : Aff} {x : ByteArray} (h : do1 a x = none) (hf : a.fits) (ha : affOk a = true) (hx : wok x = true) (w : World) :
    Calls Tryz.prog 104 #[.agg a.cells, .string x] w fun e w' => (∃ z, e = .returned (.tuple #[.string z, .bool false])) ∧ Below w.heap.size w w' := by
  refine (l2Do_any a x w hf ha hx).mono ?_
  rintro e w' ⟨rfl, hb⟩
  refine ⟨?_, hb⟩
  unfold do1 doT at h
  rw [ha, hx] at h
  cases h1 : hasT a.front x a.wh with
  | false => exact ⟨_, rfl⟩
  | true =>
    cases h2 : wok (swT a.front x a.strip a.add) with
    | false => exact ⟨_, rfl⟩
    | true =>
      rw [h1, h2] at h
      simp at h
theorem l2Do_yes {a : Aff} {x y : ByteArray} (h : do1 a x = some y) (hf : a.fits) (ha : affOk a = true) (hx : wok x = true) (w : World) :
    Calls Tryz.prog 104 #[.agg a.cells, .string x] w fun e w' => e = .returned (.tuple #[.string y, .bool true]) ∧ Below w.heap.size w w' := by
  refine (l2Do_any a x w hf ha hx).mono ?_
  rintro e w' ⟨rfl, hb⟩
  refine ⟨?_, hb⟩
  unfold do1 doT at h
  rw [ha, hx] at h
  cases h1 : hasT a.front x a.wh with
  | false => rw [h1] at h; simp at h
  | true =>
    cases h2 : wok (swT a.front x a.strip a.add) with
    | false => rw [h1, h2] at h; simp at h
    | true =>
      rw [h1, h2] at h
      simp at h
      rw [← h, if_pos rfl]
theorem Tryz.info_str130 : (Tryz.prog.info? 9).map (fun i => (i.zero, i.size, i.bytes)) = some (some (.string ⟨#[]⟩), 1, 16) := by kernel_rfl
set_option maxRecDepth 100000 in
set_option maxHeartbeats 1000000 in
theorem l2One_any (w : World) (va vw : Value) (xs : List Aff) (fl : ByteArray) (front : Bool) (ws : List ByteArray) (ha : AffsAt w va xs) (hw : TextRow w vw ws) (hok : ∀ a ∈ xs, affOk a = true) (hwk : ∀ x ∈ ws, wok x = true) (hn : xs.length ≤ 8) (hm : ws.length ≤ 100) (hfl : fl.size ≤ maxLen) :
    Calls Tryz.prog 86 #[va, .string fl, .bool front, vw] w fun e w' => ∃ v', e = .returned v' ∧ TextRow w' v' (oneT xs fl front ws) ∧ Below w.heap.size w w' := by
  obtain ⟨a, cap, rfl, hc, hmx⟩ := ha.form
  have HA : Hid (AffsAt w (.slice a xs.length cap) xs) := ha
  have HW : Hid (TextRow w vw ws) := hw
  obtain ⟨g, gcap, rfl, hcap, hcell, cur, hcur⟩ := hw
  have hg := lt_of_block hcur
  have HC : Hid (∀ i s, ws[i]? = some s → w.cell? ⟨g, i, none⟩ = some (.string s)) := hcell
  have HOK : Hid (∀ a ∈ xs, affOk a = true) := hok
  have HWK : Hid (∀ x ∈ ws, wok x = true) := hwk
  have HFL : Hid (fl.size ≤ maxLen) := hfl
  obtain ⟨i3, hi3, hz3, hs3, hb3⟩ := info_parts Tryz.info_str130
  clear ha hcell hcur hok hwk hfl
  unfold maxLen at hmx
  go_enter Tryz.func86, Tryz.ntmps86
  go_wp2_with (at_builtin; refine wpList_append_own _ rfl _ _ 53 rfl w.heap.size 9 i3 (.string ⟨#[]⟩) 1 16 Tryz.underlying53 hi3 hz3 hs3 hb3 rfl (by decide) (.slice (some ⟨_, 0, none⟩) 0 0) 0 [] rfl (own_of_block (heap_alloc_last _ _) (Nat.le_refl _)) ⟨g, 0, none⟩ ws.length gcap (texts ws) rfl (by simp [texts]) (by have := news_take HC.out hg ((Below.refl _ w).alloc (Nat.le_refl _) (.cells #[] 9)) ws.length; rwa [List.take_length] at this) (texts_one _) (by unfold maxLen; omega) (by omega) (by simp) ?_; intro v1 w1 hown hgrow hnil; have HB1 : Hid (Below w.heap.size w w1) := below_step ((Below.refl _ w).alloc (Nat.le_refl _) _) hgrow (block_ge (Nat.le_refl _)); have HT1 : Hid (TextRow w1 v1 ws) := TextRow.of_owns (B := w.heap.size) (by simpa using hown) (fun e => by have h1 := (hnil.1 e).1; cases h1); clear hown hgrow hnil)
  go_loopw [9, 10] (fun o i wr => ∃ (k : Nat), k ≤ xs.length ∧ i = .int .i64 k ∧ TextRow wr o ((xs.take k).foldl (oneF fl front ws) ws) ∧ Below w.heap.size w wr) (fun _ i _ => xs.length - (intOf i).toNat)
  case atStart => exact ⟨0, Nat.zero_le _, rfl, HT1.out, HB1.out⟩
  case round =>
    rename World => wo
    obtain ⟨k, hk, rfl, ht, hb⟩ := hrel
    have HT : Hid (TextRow wo u9 ((xs.take k).foldl (oneF fl front ws) ws)) := ht
    have HB : Hid (Below w.heap.size w wo) := hb
    clear ht hb
    by_cases hlt : k < xs.length
    · obtain ⟨b, off, cap', x, hv, hbl, hx, hxf, hcl⟩ := (HA.out.below HB.out).at hlt
      cases hv
      have HN : Hid ((xs.take (k + 1)).foldl (oneF fl front ws) ws = oneF fl front ws ((xs.take k).foldl (oneF fl front ws) ws) x) := ones_take hx
      have HCL : Hid (AffCell wo b (off + k * 5) x) := hcl
      have HXO : Hid (affOk x = true) := HOK.out x (List.mem_of_getElem? hx)
      have HXF : Hid (x.fits) := hxf
      have hfs := hxf.1
      obtain ⟨e0, e1, _, _, _⟩ := hcl
      clear hx hxf
      by_cases hfr : x.front = front
      · subst hfr
        cases hfi : flagIn fl x.flag with
        | false =>
          have HO : Hid (oneF fl x.front ws ((xs.take k).foldl (oneF fl x.front ws) ws) x = (xs.take k).foldl (oneF fl x.front ws) ws) := if_neg (by simp [tkB, hfi])
          go_wp2_with fail
          refine (l2Has_any fl x.flag _ HFL.out).mono ?_
          rintro e w2 ⟨rfl, he⟩
          rw [he, hfi]
          clear he
          go_wp2
          go_roundw
          case rel => exact ⟨k + 1, by omega, by go_num, by rw [HN.out, HO.out]; exact HT.out, HB.out⟩
          case measure => simp [intOf]; omega
        | true =>
          have HO : Hid (oneF fl x.front ws ((xs.take k).foldl (oneF fl x.front ws) ws) x = stepA ws x ((xs.take k).foldl (oneF fl x.front ws) ws)) := if_pos (by simp [tkB, hfi])
          have HLN : Hid (((xs.take k).foldl (oneF fl x.front ws) ws).length ≤ 1000) := by
            have h1 := ones_len fl x.front ws (xs.take k) ws
            have h2 : (xs.take k).length ≤ 8 := Nat.le_trans (List.length_take_le' _ _) hn
            have h3 : (xs.take k).length * ws.length ≤ 8 * 100 := Nat.mul_le_mul h2 hm
            show _ ≤ 1000
            omega
          go_wp2_with fail
          refine (l2Has_any fl x.flag _ HFL.out).mono ?_
          rintro e w2 ⟨rfl, he⟩
          rw [he, hfi]
          clear he e0 e1
          go_wp2
          go_loopw [9, 11] (fun o i wr => ∃ (j : Nat), j ≤ ws.length ∧ i = .int .i64 j ∧ TextRow wr o (stepA (ws.take j) x ((xs.take k).foldl (oneF fl x.front ws) ws)) ∧ Below wo.heap.size wo wr) (fun _ i _ => ws.length - (intOf i).toNat)
          case atStart => exact ⟨0, Nat.zero_le _, rfl, HT.out, Below.refl _ _⟩
          case round =>
            obtain ⟨j, hj, rfl, ht, hb⟩ := hrel
            rename_i uz _
            have HTJ : Hid (TextRow wr u9 (stepA (ws.take j) x ((xs.take k).foldl (oneF fl x.front ws) ws))) := ht
            have HBJ : Hid (Below wo.heap.size wo wr) := hb
            clear ht hb
            by_cases hjl : j < ws.length
            · obtain ⟨y, hy⟩ : ∃ y, ws[j]? = some y := ⟨_, List.getElem?_eq_getElem hjl⟩
              have HYK : Hid (wok y = true) := HWK.out y (List.mem_of_getElem? hy)
              have c1 : wr.cell? ⟨g, j, none⟩ = some (.string y) := ((HB.out.trans (HBJ.out.mono HB.out.size)).cell (p := ⟨g, j, none⟩) hg).trans (HC.out j y hy)
              have HS : Hid (stepA (ws.take (j + 1)) x ((xs.take k).foldl (oneF fl x.front ws) ws) = put1 x (stepA (ws.take j) x ((xs.take k).foldl (oneF fl x.front ws) ws)) y) := stepA_take hy
              have HLJ : Hid ((stepA (ws.take j) x ((xs.take k).foldl (oneF fl x.front ws) ws)).length ≤ 2000) := by
                have h1 := stepA_len x (ws.take j) ((xs.take k).foldl (oneF fl x.front ws) ws)
                have h2 : (ws.take j).length ≤ 100 := Nat.le_trans (List.length_take_le' _ _) hm
                have h3 := HLN.out
                show _ ≤ 2000
                omega
              have hcw : AffCell wr b (off + k * 5) x := HCL.out.below HBJ.out hbl
              obtain ⟨e0, e1, e2, e3, e4⟩ := hcw
              clear hy
              cases hd : do1 x y with
              | none =>
                have HP : Hid (put1 x (stepA (ws.take j) x ((xs.take k).foldl (oneF fl x.front ws) ws)) y = stepA (ws.take j) x ((xs.take k).foldl (oneF fl x.front ws) ws)) := by show put1 _ _ _ = _; simp only [put1, hd]
                have HDO : Hid (∀ w : World, Calls Tryz.prog 104 #[.agg #[.string x.flag, .bool x.front, .string x.strip, .string x.add, .string x.wh], .string y] w fun e w' => (∃ z, e = .returned (.tuple #[.string z, .bool false])) ∧ Below w.heap.size w w') := fun w => l2Do_no hd HXF.out HXO.out HYK.out w
                clear hd
                go_wp2_with fail
                go_region_with (go_at_call 104; refine (HDO.out _).mono ?_; rintro e w3 ⟨⟨z, rfl⟩, hb3⟩)
                all_goals
                  have HB3 : Hid (Below wr.heap.size wr w3) := (Below.refl _ _).drew.trans hb3
                  clear hb3
                  go_wp2
                  go_roundw
                  case rel => exact ⟨j + 1, by omega, by go_num, by rw [HS.out, HP.out]; exact HTJ.out.below HB3.out, HBJ.out.trans (HB3.out.mono HBJ.out.size)⟩
                  case measure => simp [intOf]; omega
              | some z =>
                have HP : Hid (put1 x (stepA (ws.take j) x ((xs.take k).foldl (oneF fl x.front ws) ws)) y = put (stepA (ws.take j) x ((xs.take k).foldl (oneF fl x.front ws) ws)) z) := by show put1 _ _ _ = _; simp only [put1, hd]
                have HDO : Hid (∀ w : World, Calls Tryz.prog 104 #[.agg #[.string x.flag, .bool x.front, .string x.strip, .string x.add, .string x.wh], .string y] w fun e w' => e = .returned (.tuple #[.string z, .bool true]) ∧ Below w.heap.size w w') := fun w => l2Do_yes hd HXF.out HXO.out HYK.out w
                clear hd
                go_wp2_with fail
                go_region_with (go_at_call 104; refine (HDO.out _).mono ?_; rintro e w3 ⟨rfl, hb3⟩)
                all_goals
                  have HB3 : Hid (Below wr.heap.size wr w3) := (Below.refl _ _).drew.trans hb3
                  clear hb3
                  go_wp2_with fail
                  refine (l1Put_any _ _ _ z (HTJ.out.below HB3.out) (Nat.le_trans HLJ.out (by decide))).mono ?_
                  rintro e w4 ⟨v4, rfl, ht4, hb4⟩
                  have HT4 : Hid (TextRow w4 v4 (put (stepA (ws.take j) x ((xs.take k).foldl (oneF fl x.front ws) ws)) z)) := ht4
                  have HB4 : Hid (Below wr.heap.size wr w4) := HB3.out.trans (hb4.mono HB3.out.size)
                  clear hb4 ht4
                  go_wp2
                  go_roundw
                  case rel => exact ⟨j + 1, by omega, by go_num, by rw [HS.out, HP.out]; exact HT4.out, HBJ.out.trans (HB4.out.mono HBJ.out.size)⟩
                  case measure => simp [intOf]; omega
            · have hje : j = ws.length := by omega
              subst hje
              go_wp2
              go_roundw
              case rel => exact ⟨k + 1, by omega, by go_num, by rw [HN.out, HO.out]; have := HTJ.out; rwa [List.take_length] at this, HB.out.trans (HBJ.out.mono HB.out.size)⟩
              case measure => simp [intOf]; omega
      · have HO : Hid (oneF fl front ws ((xs.take k).foldl (oneF fl front ws) ws) x = (xs.take k).foldl (oneF fl front ws) ws) := if_neg (by simp [tkB, hfr])
        have hfr' : ¬ (x.front = front) := hfr
        go_wp2
        go_roundw
        case rel => exact ⟨k + 1, by omega, by go_num, by rw [HN.out, HO.out]; exact HT.out, HB.out⟩
        case measure => simp [intOf]; omega
    · have hke : k = xs.length := by omega
      subst hke
      go_wp2
      go_ret
      exact ⟨_, rfl, by have := HT.out; rwa [List.take_length] at this, HB.out⟩
end Go.Proofs.YthedglgljehmgaaGreatDoor
/-
  The words that an entry makes: spec.l2Forms, spec.Forms.
-/
namespace Go.Proofs.YthedglgljehmgaaGreatDoor
open Go.RowKit
set_option linter.unusedVariables false
theorem one_row (w : World) (st : ByteArray) : TextRow (w.alloc (.cells #[.string st] 9)) (.slice (some ⟨w.heap.size, 0, none⟩) 1 1) [st] := by
  refine ⟨_, 1, rfl, Nat.le_refl _, fun i s hs => ?_, _, heap_alloc_last _ _⟩
  have h : i = 0 := by have := (List.getElem?_eq_some_iff.1 hs).1; simp at this; omega
  subst h
  rw [cell_of_row _ _ 0 _ _ _ (heap_alloc_last w _)]
  simp at hs
  simp [hs]
theorem oneT_len (xs : List Aff) (fl : ByteArray) (front : Bool) (ws : List ByteArray) : (oneT xs fl front ws).length ≤ ws.length + xs.length * ws.length := ones_len fl front ws xs ws
theorem TextRow.drew {w : World} {v : Value} {ss : List ByteArray} (h : TextRow w v ss) : TextRow w.drew v ss := h.below (Below.refl _ _).drew
set_option maxRecDepth 100000 in
set_option maxHeartbeats 400000 in
theorem l2Forms_any (w : World) (va : Value) (xs : List Aff) (st fl : ByteArray) (ha : AffsAt w va xs) (hok : ∀ a ∈ xs, affOk a = true) (hst : wok st = true) (hn : xs.length ≤ 8) (hfl : fl.size ≤ maxLen) :
    Calls Tryz.prog 59 #[va, .agg #[.string st, .string fl]] w fun e w' => ∃ v', e = .returned v' ∧ TextRow w' v' (formsL xs st fl) ∧ Below w.heap.size w w' := by
  obtain ⟨a, cap, rfl, hc, hmx⟩ := ha.form
  have HA : Hid (AffsAt w (.slice a xs.length cap) xs) := ha
  have HOK : Hid (∀ a ∈ xs, affOk a = true) := hok
  have HWK : Hid (∀ x ∈ [st], wok x = true) := fun x hx => by rw [List.mem_singleton.1 hx]; exact hst
  have HFL : Hid (fl.size ≤ maxLen) := hfl
  have H1 : Hid ((oneT xs fl false [st]).length ≤ 100) := by
    have := oneT_len xs fl false [st]
    simp only [List.length_singleton] at this
    show _ ≤ 100
    omega
  have H2 : Hid (∀ x ∈ oneT xs fl false [st], wok x = true) := oneT_wok xs fl false [st] HWK.out
  have HL1 : Hid (([st] : List ByteArray).length ≤ 100) := by show _ ≤ 100; simp
  have HBa : Hid (Below w.heap.size w (World.drew ((w.alloc (.cells #[.string st, .string fl] 80)).alloc (.cells #[.string st] 9)))) := (((Below.refl _ _).alloc (Nat.le_refl _) _).alloc (by simp) _).drew
  have HRa : Hid (TextRow (World.drew ((w.alloc (.cells #[.string st, .string fl] 80)).alloc (.cells #[.string st] 9))) (.slice (some ⟨w.heap.size + 1, 0, none⟩) 1 1) [st]) := by
    have h := (one_row (w.alloc (.cells #[.string st, .string fl] 80)) st).drew
    rw [World.size_alloc] at h
    exact h
  have HCa : Hid (World.cell? (World.drew ((w.alloc (.cells #[.string st, .string fl] 80)).alloc (.cells #[.string st] 9))) ⟨w.heap.size, 0, none⟩ = some (.string st) ∧ World.cell? (World.drew ((w.alloc (.cells #[.string st, .string fl] 80)).alloc (.cells #[.string st] 9))) ⟨w.heap.size, 1, none⟩ = some (.string fl)) := by
    have h : (World.heap (World.drew ((w.alloc (.cells #[.string st, .string fl] 80)).alloc (.cells #[.string st] 9))))[w.heap.size]? = some (.cells #[.string st, .string fl] 80 (0, 0)) := heap_first w _ _
    show _ ∧ _
    exact ⟨by rw [cell_of_row _ _ 0 _ _ _ h]; rfl, by rw [cell_of_row _ _ 1 _ _ _ h]; rfl⟩
  clear ha hok hst hfl
  unfold maxLen at hmx
  go_enter Tryz.func59, Tryz.ntmps59
  go_wp2_with fail
  go_region_held3 (fun w' => w'.cell? ⟨w.heap.size, 0, none⟩ = some (.string st) ∧ w'.cell? ⟨w.heap.size, 1, none⟩ = some (.string fl)) (go_keep)
    (first
      | (have q2 := HB2; clear q2; go_at_call 86; refine (l2One_any _ _ _ xs fl true (oneT xs fl false [st]) (HA.out.below HB2.out) HT2.out HOK.out H2.out hn H1.out HFL.out).mono ?_; rintro e w3 ⟨v3, rfl, ht3, hb3⟩; have k2 := (hb3.cell (p := ⟨w.heap.size, 0, none⟩) hz2).trans k0; have k3 := (hb3.cell (p := ⟨w.heap.size, 1, none⟩) hz2).trans k1)
      | (go_at_call 86; refine (l2One_any _ _ _ xs fl false [st] (HA.out.below HBa.out) HRa.out HOK.out HWK.out hn HL1.out HFL.out).mono ?_; rintro e w2 ⟨v2, rfl, ht2, hb2⟩; have HB2 : Hid (Below w.heap.size w w2) := HBa.out.trans (hb2.mono (by simp; omega)); have HT2 : Hid (TextRow w2 v2 (oneT xs fl false [st])) := ht2; have k0 := (hb2.cell (p := ⟨w.heap.size, 0, none⟩) (by simp; omega)).trans HCa.out.1; have k1 := (hb2.cell (p := ⟨w.heap.size, 1, none⟩) (by simp; omega)).trans HCa.out.2; have hz2 : w.heap.size < w2.heap.size := (by have := hb2.size; simp at this; omega); clear hb2 ht2))
  all_goals
    go_wp2
    go_ret
    exact ⟨_, rfl, ht3, HB2.out.trans (hb3.mono HB2.out.size)⟩
/-- What Forms answers. -/
def formsT (xs : List Aff) (st fl : ByteArray) : List ByteArray := if affsT xs && entT st fl then formsL xs st fl else []
theorem affsT_all {xs : List Aff} (h : affsT xs = true) : (∀ a ∈ xs, affOk a = true) ∧ xs.length ≤ 8 := by
  simp only [affsT, Bool.and_eq_true, decide_eq_true_eq, List.all_eq_true, List.mem_range] at h
  refine ⟨fun a ha => ?_, h.1⟩
  obtain ⟨i, hi, he⟩ := List.mem_iff_getElem.1 ha
  have h1 := h.2 i hi
  have h2 : xs[i]? = some a := by rw [List.getElem?_eq_getElem hi, he]
  rw [affAt_at h2] at h1
  simp only [Bool.and_eq_true] at h1
  exact h1.1
theorem formsL_len {xs : List Aff} (st fl : ByteArray) (h : xs.length ≤ 8) : (formsL xs st fl).length ≤ 100 := by
  have h1 := oneT_len xs fl false [st]
  have h2 := oneT_len xs fl true (oneT xs fl false [st])
  simp only [List.length_singleton, Nat.mul_one] at h1
  have h3 : xs.length * (oneT xs fl false [st]).length ≤ 8 * 9 := Nat.mul_le_mul h (by omega)
  unfold formsL
  omega
theorem formsL_wok {xs : List Aff} {st fl : ByteArray} (h : wok st = true) : ∀ x ∈ formsL xs st fl, wok x = true :=
  oneT_wok _ _ _ _ (oneT_wok _ _ _ _ fun x hx => by rw [List.mem_singleton.1 hx]; exact h)
theorem formsT_small (xs : List Aff) (st fl : ByteArray) : (formsT xs st fl).length ≤ 100 ∧ ∀ x ∈ formsT xs st fl, x.size ≤ 12 := by
  unfold formsT
  split
  · next h =>
    simp only [Bool.and_eq_true, entT] at h
    exact ⟨formsL_len st fl (affsT_all h.1).2, fun x hx => by
      have := formsL_wok h.2.1 x hx
      simp only [wok, Bool.and_eq_true, decide_eq_true_eq] at this
      omega⟩
  · exact ⟨by simp, fun x hx => by cases hx⟩
theorem textRow_at {w : World} {v : Value} {ss : List ByteArray} (h : TextRow w v ss) (hl : ss.length ≤ 1000000) (hs : ∀ x ∈ ss, x.size ≤ 12) : TextsAt w v ss := by
  obtain ⟨g, cap, hv, hc, hcell, cur, hcur⟩ := h
  refine ⟨_, cap, hv, hc, by unfold maxLen; omega, fun i x hx => ?_, fun _ => ⟨g, 0, rfl, lt_of_block hcur, fun i x hx => ?_⟩⟩
  · have := hs x (List.mem_of_getElem? hx)
    unfold maxLen
    omega
  · rw [Nat.zero_add]
    exact hcell i x hx
theorem textsAt_nil (w : World) (a : Option Addr) (cap : Nat) : TextsAt w (.slice a 0 cap) [] := ⟨a, cap, rfl, Nat.zero_le _, Nat.zero_le _, fun i x hx => by simp at hx, fun hn => absurd rfl hn⟩
end Go.Proofs.YthedglgljehmgaaGreatDoor
