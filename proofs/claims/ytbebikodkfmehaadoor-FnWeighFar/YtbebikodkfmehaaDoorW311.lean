/-
  KeyFar of both sides; the law FnExactKeyFar.
-/
import Derived.Test.YtbebikodkfmehaaDoorW310
import Derived.Deep.RegionHeld3
import Derived.Lib.SmallJoins
import Derived.Deep.WholeRow
namespace Go.Proofs.YtbebikodkfmehaaDoor
open Go.RowKit
set_option linter.unusedVariables false
theorem kpT_bounds (s : ByteArray) : -1 ≤ (kpT s).1 ∧ (kpT s).1 ≤ 2 ∧ -1 ≤ (kpT s).2 ∧ (kpT s).2 ≤ 9 := by
  unfold kpT
  split
  · exact (kp_facts _).2
  · exact ⟨Int.le_refl _, by decide, Int.le_refl _, by decide⟩
theorem keyPlace_eq (s : ByteArray) (r p : Int) (w : World) (hs : s.size ≤ maxLen) (ht : keyTab w) (h1 : (kpT s).1 = r) (h2 : (kpT s).2 = p) :
    Calls Tryd.prog 14 #[.string s] w fun e w' => e = .returned (.tuple #[.int .i64 r, .int .i64 p]) ∧ w' = w := by
  rw [← h1, ← h2]; exact keyPlace_any s w hs ht
set_option maxHeartbeats 1000000 in
theorem implKeyFar_any (a b : ByteArray) (w : World) (ha : a.size ≤ maxLen) (hb : b.size ≤ maxLen) (ht : keyTab w) :
    Calls Tryd.prog 6 #[.string a, .string b] w fun e w' => e = .returned (.int .i64 (kfT a b)) ∧ w' = w := by
  have hA := kpT_bounds a
  have hB := kpT_bounds b
  have HF : Hid (kfT a b = if (kpT a).1 < 0 ∨ (kpT b).1 < 0 then -1 else ls (if apI (kpT a).1 (kpT b).1 < apI (kpT a).2 (kpT b).2 then apI (kpT a).2 (kpT b).2 else apI (kpT a).1 (kpT b).1) 4) := rfl
  obtain ⟨ra, h1⟩ : ∃ r, (kpT a).1 = r := ⟨_, rfl⟩
  obtain ⟨pa, h2⟩ : ∃ r, (kpT a).2 = r := ⟨_, rfl⟩
  obtain ⟨rb, h3⟩ : ∃ r, (kpT b).1 = r := ⟨_, rfl⟩
  obtain ⟨pb, h4⟩ : ∃ r, (kpT b).2 = r := ⟨_, rfl⟩
  rw [h1, h2, h3, h4] at HF
  rw [h1, h2] at hA
  rw [h3, h4] at hB
  have H1 : Hid _ := h1
  have H2 : Hid _ := h2
  have H3 : Hid _ := h3
  have H4 : Hid _ := h4
  obtain ⟨x1, x2, x3, x4⟩ := hA
  obtain ⟨y1, y2, y3, y4⟩ := hB
  have zA := apI_bounds ra rb x1 (by omega) y1 (by omega)
  have zB := apI_bounds pa pb x3 (by omega) y3 (by omega)
  have HT : Hid (keyTab w) := ht
  have HM : Hid True := trivial
  clear h1 h2 h3 h4 ht
  by_cases c1 : ra < 0
  · go_enter Tryd.func6, Tryd.ntmps6
    go_wp2_with (first | (go_at_call 14; have q := HM; clear q HM; refine (keyPlace_eq a ra pa _ ha HT.out H1.out H2.out).mono ?_; rintro e w' ⟨rfl, rfl⟩) | (go_at_call 14; refine (keyPlace_eq b rb pb _ hb HT.out H3.out H4.out).mono ?_; rintro e w' ⟨rfl, rfl⟩))
    go_ret
    exact ⟨ret_k (by rw [HF.out, if_pos (.inl c1)]), rfl⟩
  by_cases c2 : rb < 0
  · go_enter Tryd.func6, Tryd.ntmps6
    go_wp2_with (first | (go_at_call 14; have q := HM; clear q HM; refine (keyPlace_eq a ra pa _ ha HT.out H1.out H2.out).mono ?_; rintro e w' ⟨rfl, rfl⟩) | (go_at_call 14; refine (keyPlace_eq b rb pb _ hb HT.out H3.out H4.out).mono ?_; rintro e w' ⟨rfl, rfl⟩))
    go_ret
    exact ⟨ret_k (by rw [HF.out, if_pos (.inr c2)]), rfl⟩
  · have HG : Hid (kfT a b = ls (if apI ra rb < apI pa pb then apI pa pb else apI ra rb) 4) := by show kfT a b = _; rw [HF.out, if_neg (by omega)]
    go_enter Tryd.func6, Tryd.ntmps6
    go_wp2_with (first | (go_at_call 14; have q := HM; clear q HM; refine (keyPlace_eq a ra pa _ ha HT.out H1.out H2.out).mono ?_; rintro e w' ⟨rfl, rfl⟩) | (go_at_call 14; refine (keyPlace_eq b rb pb _ hb HT.out H3.out H4.out).mono ?_; rintro e w' ⟨rfl, rfl⟩) | (go_at_call 15; refine (apart_any _ _ _ (by omega) (by omega) (by omega) (by omega)).mono ?_; rintro e w' ⟨rfl, rfl⟩))
    all_goals
      go_ret
      exact ⟨ret_k (by rw [HG.out]; unfold ls; (repeat' split) <;> omega), rfl⟩
set_option maxHeartbeats 1000000 in
theorem l10Row_any (c : UInt8) (w : World) :
    Calls Tryd.prog 25 #[.int .u8 (c.toNat : Int)] w fun e w' => e = .returned (.tuple #[.int .i64 (kpB c).1, .int .i64 (kpB c).2]) ∧ Below w.heap.size w w' := by
  obtain ⟨R0, hR0⟩ : ∃ R, row0 = R := ⟨_, rfl⟩
  obtain ⟨R1, hR1⟩ : ∃ R, row1 = R := ⟨_, rfl⟩
  obtain ⟨R2, hR2⟩ : ∃ R, row2 = R := ⟨_, rfl⟩
  obtain ⟨W1, hW⟩ : ∃ W1, w.alloc (.cells #[.string ⟨#[113, 119, 101, 114, 116, 121, 117, 105, 111, 112]⟩, .string ⟨#[97, 115, 100, 102, 103, 104, 106, 107, 108]⟩, .string ⟨#[122, 120, 99, 118, 98, 110, 109]⟩] 9) = W1 := ⟨_, rfl⟩
  have HB : Hid (Below w.heap.size w W1) := by show Below _ _ _; rw [← hW]; exact (Below.refl _ _).alloc (Nat.le_refl _) _
  have e0 : W1.cell? ⟨w.heap.size, 0, none⟩ = some (.string R0) := by rw [← hW, ← hR0]; rw [cell_of_row _ _ 0 _ _ (0, 0) (heap_alloc_last w _)]; rfl
  have e1 : W1.cell? ⟨w.heap.size, 1, none⟩ = some (.string R1) := by rw [← hW, ← hR1]; rw [cell_of_row _ _ 1 _ _ (0, 0) (heap_alloc_last w _)]; rfl
  have e2 : W1.cell? ⟨w.heap.size, 2, none⟩ = some (.string R2) := by rw [← hW, ← hR2]; rw [cell_of_row _ _ 2 _ _ (0, 0) (heap_alloc_last w _)]; rfl
  have z0 : R0.size ≤ 10 := by rw [← hR0]; decide
  have z1 : R1.size ≤ 10 := by rw [← hR1]; decide
  have z2 : R2.size ≤ 10 := by rw [← hR2]; decide
  have K0 : Hid (key0 c = Lib.indexByte R0.data.toList c) := by rw [← hR0]; exact rfl
  have K1 : Hid (key1 c = Lib.indexByte R1.data.toList c) := by rw [← hR1]; exact rfl
  have K2 : Hid (key2 c = Lib.indexByte R2.data.toList c) := by rw [← hR2]; exact rfl
  have HK : Hid (kpB c = if 0 ≤ key0 c then (0, key0 c) else if 0 ≤ key1 c then (1, key1 c) else if 0 ≤ key2 c then (2, key2 c) else (-1, -1)) := rfl
  clear hR0 hR1 hR2
  go_enter Tryd.func25, Tryd.ntmps25
  go_wp2
  go_loop [5] (fun i => ∃ k : Nat, k ≤ 3 ∧ i = .int .i64 k ∧ (0 < k → key0 c < 0) ∧ (1 < k → key1 c < 0) ∧ (2 < k → key2 c < 0)) (fun i => 3 - (intOf i).toNat)
  case atStart => exact ⟨0, by omega, rfl, by omega, by omega, by omega⟩
  case round =>
    obtain ⟨k, hk, rfl, g0, g1, g2⟩ := hrel
    rcases (show k = 0 ∨ k = 1 ∨ k = 2 ∨ k = 3 by omega) with rfl | rfl | rfl | rfl
    · have HG0 : Hid (0 < 0 → key0 c < 0) := g0
      have HG1 : Hid (1 < 0 → key1 c < 0) := g1
      have HG2 : Hid (2 < 0 → key2 c < 0) := g2
      clear g0 g1 g2
      go_wp2
      go_loop [6] (fun j => ∃ m : Nat, m ≤ R0.size ∧ j = .int .i64 m ∧ ∀ x : Nat, x < m → R0.data.toList[x]? ≠ some c) (fun j => R0.size - (intOf j).toNat)
      case atStart => exact ⟨0, Nat.zero_le _, rfl, fun x hx => absurd hx (by omega)⟩
      case round =>
        obtain ⟨m, hm, rfl, hno⟩ := hrel
        have HN : Hid (∀ x : Nat, x < m → R0.data.toList[x]? ≠ some c) := hno
        clear hno
        by_cases hlt : m < R0.size
        · have HE : Hid (R0.data.toList[m]? = some R0[m]) := by
            have e2 : R0[m] = R0.data.toList[m]'(by simpa using hlt) := rfl
            show _ = _
            rw [e2]; exact List.getElem?_eq_getElem (by simpa using hlt)
          by_cases hc : (R0[m].toNat : Int) = (c.toNat : Int)
          · have HD : Hid (kpB c = (0, (m : Int))) := by
              show kpB c = _
              have hcc : R0[m] = c := UInt8.toNat_inj.1 (by omega)
              have hm2 : key0 c = (m : Int) := by rw [K0.out]; exact ib_of (by rw [HE.out, hcc]) HN.out
              have q0 := HG0.out
              have q1 := HG1.out
              rw [HK.out]; rw [if_pos (by omega), hm2]
            go_wp2
            refine bodyPost_ret (v := .tuple #[.int .i64 0, .int .i64 m]) (by simp [results, Tryd.results25, go_sem]) rfl ⟨?_, HB.out⟩
            rw [HD.out]
          · have HNE : Hid (R0[m] ≠ c) := fun h => hc (by rw [h])
            go_wp2
            go_round
            case rel =>
              refine ⟨m + 1, by omega, by go_num, fun x hx => ?_⟩
              by_cases e : x = m
              · subst e; rw [HE.out]; exact fun h => HNE.out (Option.some.inj h)
              · exact HN.out x (by omega)
            case measure => simp [intOf]; omega
        · have HQ : Hid (key0 c < 0) := by
            show key0 c < 0
            rw [K0.out, ib_none (fun x => by
              by_cases hx : x < m
              · exact HN.out x hx
              · rw [List.getElem?_eq_none (by show R0.size ≤ x; omega)]; simp)]
            decide
          go_wp2
          go_round
          case rel => exact ⟨1, by omega, rfl, fun _ => HQ.out, by omega, by omega⟩
          case measure => simp [intOf]
    · have HG0 : Hid (0 < 1 → key0 c < 0) := g0
      have HG1 : Hid (1 < 1 → key1 c < 0) := g1
      have HG2 : Hid (2 < 1 → key2 c < 0) := g2
      clear g0 g1 g2
      go_wp2
      go_loop [6] (fun j => ∃ m : Nat, m ≤ R1.size ∧ j = .int .i64 m ∧ ∀ x : Nat, x < m → R1.data.toList[x]? ≠ some c) (fun j => R1.size - (intOf j).toNat)
      case atStart => exact ⟨0, Nat.zero_le _, rfl, fun x hx => absurd hx (by omega)⟩
      case round =>
        obtain ⟨m, hm, rfl, hno⟩ := hrel
        have HN : Hid (∀ x : Nat, x < m → R1.data.toList[x]? ≠ some c) := hno
        clear hno
        by_cases hlt : m < R1.size
        · have HE : Hid (R1.data.toList[m]? = some R1[m]) := by
            have e2 : R1[m] = R1.data.toList[m]'(by simpa using hlt) := rfl
            show _ = _
            rw [e2]; exact List.getElem?_eq_getElem (by simpa using hlt)
          by_cases hc : (R1[m].toNat : Int) = (c.toNat : Int)
          · have HD : Hid (kpB c = (1, (m : Int))) := by
              show kpB c = _
              have hcc : R1[m] = c := UInt8.toNat_inj.1 (by omega)
              have hm2 : key1 c = (m : Int) := by rw [K1.out]; exact ib_of (by rw [HE.out, hcc]) HN.out
              have q0 := HG0.out
              have q1 := HG1.out
              rw [HK.out]; rw [if_neg (by omega)]; rw [if_pos (by omega), hm2]
            go_wp2
            refine bodyPost_ret (v := .tuple #[.int .i64 1, .int .i64 m]) (by simp [results, Tryd.results25, go_sem]) rfl ⟨?_, HB.out⟩
            rw [HD.out]
          · have HNE : Hid (R1[m] ≠ c) := fun h => hc (by rw [h])
            go_wp2
            go_round
            case rel =>
              refine ⟨m + 1, by omega, by go_num, fun x hx => ?_⟩
              by_cases e : x = m
              · subst e; rw [HE.out]; exact fun h => HNE.out (Option.some.inj h)
              · exact HN.out x (by omega)
            case measure => simp [intOf]; omega
        · have HQ : Hid (key1 c < 0) := by
            show key1 c < 0
            rw [K1.out, ib_none (fun x => by
              by_cases hx : x < m
              · exact HN.out x hx
              · rw [List.getElem?_eq_none (by show R1.size ≤ x; omega)]; simp)]
            decide
          go_wp2
          go_round
          case rel => exact ⟨2, by omega, rfl, fun _ => HG0.out (by omega), fun _ => HQ.out, by omega⟩
          case measure => simp [intOf]
    · have HG0 : Hid (0 < 2 → key0 c < 0) := g0
      have HG1 : Hid (1 < 2 → key1 c < 0) := g1
      have HG2 : Hid (2 < 2 → key2 c < 0) := g2
      clear g0 g1 g2
      go_wp2
      go_loop [6] (fun j => ∃ m : Nat, m ≤ R2.size ∧ j = .int .i64 m ∧ ∀ x : Nat, x < m → R2.data.toList[x]? ≠ some c) (fun j => R2.size - (intOf j).toNat)
      case atStart => exact ⟨0, Nat.zero_le _, rfl, fun x hx => absurd hx (by omega)⟩
      case round =>
        obtain ⟨m, hm, rfl, hno⟩ := hrel
        have HN : Hid (∀ x : Nat, x < m → R2.data.toList[x]? ≠ some c) := hno
        clear hno
        by_cases hlt : m < R2.size
        · have HE : Hid (R2.data.toList[m]? = some R2[m]) := by
            have e2 : R2[m] = R2.data.toList[m]'(by simpa using hlt) := rfl
            show _ = _
            rw [e2]; exact List.getElem?_eq_getElem (by simpa using hlt)
          by_cases hc : (R2[m].toNat : Int) = (c.toNat : Int)
          · have HD : Hid (kpB c = (2, (m : Int))) := by
              show kpB c = _
              have hcc : R2[m] = c := UInt8.toNat_inj.1 (by omega)
              have hm2 : key2 c = (m : Int) := by rw [K2.out]; exact ib_of (by rw [HE.out, hcc]) HN.out
              have q0 := HG0.out
              have q1 := HG1.out
              rw [HK.out]; rw [if_neg (by omega)]; rw [if_neg (by omega)]; rw [if_pos (by omega), hm2]
            go_wp2
            refine bodyPost_ret (v := .tuple #[.int .i64 2, .int .i64 m]) (by simp [results, Tryd.results25, go_sem]) rfl ⟨?_, HB.out⟩
            rw [HD.out]
          · have HNE : Hid (R2[m] ≠ c) := fun h => hc (by rw [h])
            go_wp2
            go_round
            case rel =>
              refine ⟨m + 1, by omega, by go_num, fun x hx => ?_⟩
              by_cases e : x = m
              · subst e; rw [HE.out]; exact fun h => HNE.out (Option.some.inj h)
              · exact HN.out x (by omega)
            case measure => simp [intOf]; omega
        · have HQ : Hid (key2 c < 0) := by
            show key2 c < 0
            rw [K2.out, ib_none (fun x => by
              by_cases hx : x < m
              · exact HN.out x hx
              · rw [List.getElem?_eq_none (by show R2.size ≤ x; omega)]; simp)]
            decide
          go_wp2
          go_round
          case rel => exact ⟨3, by omega, rfl, fun _ => HG0.out (by omega), fun _ => HG1.out (by omega), fun _ => HQ.out⟩
          case measure => simp [intOf]
    · have HD : Hid (kpB c = (-1, -1)) := by
        show kpB c = _
        have q0 := g0 (by omega)
        have q1 := g1 (by omega)
        have q2 := g2 (by omega)
        rw [HK.out, if_neg (by omega), if_neg (by omega), if_neg (by omega)]
      clear g0 g1 g2
      go_wp2
      refine bodyPost_ret (v := .tuple #[.int .i64 (-1), .int .i64 (-1)]) (by simp [results, Tryd.results25, go_sem]) rfl ⟨?_, HB.out⟩
      rw [HD.out]
theorem l10Row_eq (c : UInt8) (r p : Int) (w : World) (h1 : (kpB c).1 = r) (h2 : (kpB c).2 = p) :
    Calls Tryd.prog 25 #[.int .u8 (c.toNat : Int)] w fun e w' => e = .returned (.tuple #[.int .i64 r, .int .i64 p]) ∧ Below w.heap.size w w' := by
  rw [← h1, ← h2]; exact l10Row_any c w
set_option maxHeartbeats 1000000 in
theorem l10Key_any (c d : UInt8) (w : World) :
    Calls Tryd.prog 17 #[.int .u8 (c.toNat : Int), .int .u8 (d.toNat : Int)] w fun e w' => e = .returned (.int .i64 (kfB (kpB c) (kpB d))) ∧ Below w.heap.size w w' := by
  have hA := (kp_facts c).2
  have hB := (kp_facts d).2
  have HF : Hid (kfB (kpB c) (kpB d) = ls (if apI (kpB c).1 (kpB d).1 < apI (kpB c).2 (kpB d).2 then apI (kpB c).2 (kpB d).2 else apI (kpB c).1 (kpB d).1) 4) := rfl
  obtain ⟨ra, h1⟩ : ∃ r, (kpB c).1 = r := ⟨_, rfl⟩
  obtain ⟨pa, h2⟩ : ∃ r, (kpB c).2 = r := ⟨_, rfl⟩
  obtain ⟨rb, h3⟩ : ∃ r, (kpB d).1 = r := ⟨_, rfl⟩
  obtain ⟨pb, h4⟩ : ∃ r, (kpB d).2 = r := ⟨_, rfl⟩
  rw [h1, h2, h3, h4] at HF
  rw [h1, h2] at hA
  rw [h3, h4] at hB
  have H1 : Hid _ := h1
  have H2 : Hid _ := h2
  have H3 : Hid _ := h3
  have H4 : Hid _ := h4
  obtain ⟨x1, x2, x3, x4⟩ := hA
  obtain ⟨y1, y2, y3, y4⟩ := hB
  clear h1 h2 h3 h4
  go_enter Tryd.func17, Tryd.ntmps17
  go_wp2_with fail
  refine (l10Row_eq c ra pa _ H1.out H2.out).mono ?_
  rintro e w1 ⟨rfl, hb1⟩
  go_wp2_with fail
  refine (l10Row_eq d rb pb _ H3.out H4.out).mono ?_
  rintro e w2 ⟨rfl, hb2⟩
  have HB : Hid (Below w.heap.size w w2) := hb1.trans (hb2.mono hb1.size)
  clear hb1 hb2
  by_cases hg : apI ra rb < apI pa pb
  all_goals
    go_wp2_with (first | (go_at_call 26; refine (l10Apart_any _ _ _ (by omega) (by omega) (by omega) (by omega)).mono ?_; rintro e w' ⟨rfl, rfl⟩) | (go_at_call 27; refine (least_any _ _ _).mono ?_; rintro e w' ⟨rfl, rfl⟩))
    go_ret
    exact ⟨ret_k (by rw [HF.out]; first | rw [if_pos hg] | rw [if_neg (by omega)]), HB.out⟩
theorem wok_one (s : ByteArray) (h : s.size = 1) : wok s = decide (0 ≤ (kpT s).1) := by
  obtain ⟨c, rfl⟩ := one_byte s h
  rw [kpT_one, ← (kp_facts c).1]
  have h1 : wok ⟨#[c]⟩ = ((decide (97 ≤ (c.toNat : Int)) && decide ((c.toNat : Int) ≤ 122))) := by
    unfold wok
    have e : (⟨#[c]⟩ : ByteArray).data.toList = [c] := rfl
    have e2 : (⟨#[c]⟩ : ByteArray).size = 1 := rfl
    rw [e, e2]
    simp [inr]
  rw [h1, Bool.eq_iff_iff]
  simp only [Bool.and_eq_true, decide_eq_true_eq]
  omega
set_option maxHeartbeats 1000000 in
theorem specKeyFar_any (a b : ByteArray) (w : World) (ha : a.size ≤ maxLen) (hb : b.size ≤ maxLen) :
    Calls Tryd.prog 7 #[.string a, .string b] w fun e w' => e = .returned (.int .i64 (kfT a b)) ∧ Below w.heap.size w w' := by
  have ha' := ha
  have hb' := hb
  unfold maxLen at ha hb
  have HF : Hid (kfT a b = if (kpT a).1 < 0 ∨ (kpT b).1 < 0 then -1 else kfB (kpT a) (kpT b)) := rfl
  by_cases c1 : (a.size : Int) = 1
  · by_cases c2 : (b.size : Int) = 1
    · have wa := wok_one a (by omega)
      have wb := wok_one b (by omega)
      by_cases d1 : 0 ≤ (kpT a).1
      · rw [decide_eq_true d1] at wa
        by_cases d2 : 0 ≤ (kpT b).1
        · rw [decide_eq_true d2] at wb
          have p1 : 0 < a.size := by omega
          have p2 : 0 < b.size := by omega
          have HE : Hid (kfT a b = kfB (kpB a[0]) (kpB b[0])) := by
            show kfT a b = _
            have e1 : kpT a = kpB a[0] := by unfold kpT; rw [dif_pos (by omega)]
            have e2 : kpT b = kpB b[0] := by unfold kpT; rw [dif_pos (by omega)]
            rw [HF.out, if_neg (by omega), e1, e2]
          clear d1 d2 HF
          go_enter Tryd.func7, Tryd.ntmps7
          go_wp2_with (first | (go_at_call 16; refine (l1Word_any _ _ (by first | exact ha' | exact hb')).mono ?_; rintro e w' ⟨rfl, rfl⟩))
          go_region_held3 (fun w' => True) (trivial) (first | (go_at_call 17; refine (l10Key_any _ _ _).mono ?_; rintro e w3 ⟨rfl, hb3⟩))
          all_goals
            go_wp2_with fail
            go_ret
            exact ⟨ret_k (by rw [HE.out]), (Below.refl _ _).drew.trans hb3⟩
        · rw [decide_eq_false d2] at wb
          have HE : Hid (kfT a b = -1) := by show kfT a b = _; rw [HF.out, if_pos (.inr (by omega))]
          clear d1 d2 HF
          go_enter Tryd.func7, Tryd.ntmps7
          go_wp2_with (first | (go_at_call 16; refine (l1Word_any _ _ (by first | exact ha' | exact hb')).mono ?_; rintro e w' ⟨rfl, rfl⟩))
          go_ret
          exact ⟨ret_k (by rw [HE.out]), Below.refl _ _⟩
      · rw [decide_eq_false d1] at wa
        have HE : Hid (kfT a b = -1) := by show kfT a b = _; rw [HF.out, if_pos (.inl (by omega))]
        clear d1 wb HF
        go_enter Tryd.func7, Tryd.ntmps7
        go_wp2_with (first | (go_at_call 16; refine (l1Word_any _ _ (by first | exact ha' | exact hb')).mono ?_; rintro e w' ⟨rfl, rfl⟩))
        go_ret
        exact ⟨ret_k (by rw [HE.out]), Below.refl _ _⟩
    · have HE : Hid (kfT a b = -1) := by show kfT a b = _; rw [HF.out, kpT_other b (by omega)]; exact if_pos (.inr (by decide))
      clear HF
      go_enter Tryd.func7, Tryd.ntmps7
      go_wp2_with fail
      go_ret
      exact ⟨ret_k (by rw [HE.out]), Below.refl _ _⟩
  · have HE : Hid (kfT a b = -1) := by show kfT a b = _; rw [HF.out, kpT_other a (by omega)]; exact if_pos (.inl (by decide))
    clear HF
    go_enter Tryd.func7, Tryd.ntmps7
    go_wp2_with fail
    go_ret
    exact ⟨ret_k (by rw [HE.out]), Below.refl _ _⟩
end Go.Proofs.YtbebikodkfmehaaDoor
