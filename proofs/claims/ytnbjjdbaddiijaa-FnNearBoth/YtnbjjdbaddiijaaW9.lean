/-
  What spec.l1Far tells: how far two texts are.
-/
import Derived.Test.YtnbjjdbaddiijaaW8
import Derived.Deep.WholeRow
namespace Go.Proofs.Ytnbjjdbaddiijaa
open Go.RowKit
set_option linter.unusedVariables false
theorem Try.info_int : (Try.prog.info? 3).map (fun i => (i.zero, i.size, i.bytes)) = some (some (.int .i64 0), 1, 8) := by kernel_rfl
theorem Try.info_ints : (Try.prog.info? 56).map (fun i => (i.zero, i.size, i.bytes)) = some (some (.slice none 0 0), 1, 24) := by kernel_rfl
theorem one_cell_int (x : Int) : ∀ u ∈ [Value.int .i64 x], u.oneCell' = true := by intro u hu; simp at hu; subst hu; rfl
theorem one_cell_slice (a : Option Addr) (n c : Nat) : ∀ u ∈ [Value.slice a n c], u.oneCell' = true := by intro u hu; simp at hu; subst hu; rfl
theorem lt_of_cell' {w : World} {p : Addr} {v : Value} (h : w.cell? p = some v) : p.block < w.heap.size := by
  rcases Nat.lt_or_ge p.block w.heap.size with hlt | hge
  · exact hlt
  · unfold World.cell? at h
    rw [Array.getElem?_eq_none hge] at h
    simp at h
/-- What is reckoned in one round is how far the beginnings are. -/
theorem D_round2 (x y : Nat → UInt8) (i k : Nat) (n1 : Int) (h1 : n1 = D x y i k + cost x y i k) :
    (tr x y i k = false → ls n1 (ls (D x y i (k + 1) + 1) (D x y (i + 1) k + 1)) = D x y (i + 1) (k + 1)) ∧
    (tr x y i k = true → ls (ls n1 (ls (D x y i (k + 1) + 1) (D x y (i + 1) k + 1))) (D x y (i - 1) (k - 1) + 1) = D x y (i + 1) (k + 1)) := by
  rw [D_succ, h1]
  generalize D x y i k + cost x y i k = a
  generalize D x y i (k + 1) = b
  generalize D x y (i + 1) k = c
  generalize D x y (i - 1) (k - 1) = d
  refine ⟨?_, ?_⟩
  · intro e2
    rw [e2, if_neg Bool.false_ne_true]
    unfold ls
    repeat' split
    all_goals omega
  · intro e2
    rw [e2, if_pos rfl]
    unfold ls
    repeat' split
    all_goals omega
set_option maxRecDepth 100000 in
set_option maxHeartbeats 4000000 in
theorem l1Far_any (a b : ByteArray) (w : World) (sa : a.size ≤ 12) (sb : b.size ≤ 12) :
    Calls Try.prog 23 #[.string a, .string b] w fun e w' => e = .returned (.int .i64 (far a b)) ∧ Below w.heap.size w w' := by
  obtain ⟨i3, hi3, hz3, hs3, hb3⟩ := info_parts Try.info_int
  obtain ⟨i4, hi4, hz4, hs4, hb4⟩ := info_parts Try.info_ints
  go_enter Try.func23, Try.ntmps23
  go_wp2
  go_loopw [5, 6] (fun v s wr => ∃ i g cap : Nat, i ≤ a.size + 1 ∧ s = .int .i64 i ∧ v = .slice (some ⟨g, 0, none⟩) i cap ∧ FarRows (lt a) (lt b) b.size w.heap.size v i wr ∧ Below w.heap.size w wr) (fun _ s _ => a.size + 1 - (intOf s).toNat)
  case atStart =>
    refine ⟨0, w.heap.size, 0, Nat.zero_le _, rfl, rfl, ⟨[], ?_, fun n hn => absurd hn (by omega)⟩, (Below.refl _ _).alloc (Nat.le_refl _) _⟩
    exact ⟨rfl, .inr ⟨w.heap.size, 0, #[], rfl, Nat.le_refl _, heap_alloc_last w _, Nat.le_refl _, Nat.zero_le _, rfl, rfl⟩⟩
  case round =>
    rename World => wo
    obtain ⟨i, g, cap, hi, rfl, rfl, hfr, hbel⟩ := hrel
    have HF : Hid (FarRows (lt a) (lt b) b.size w.heap.size (.slice (some ⟨g, 0, none⟩) i cap) i wo) := hfr
    clear hfr
    by_cases hlt : i ≤ a.size
    · go_wp2
      go_loopw [7, 8] (fun u s wr => ∃ k gk ck : Nat, k ≤ b.size + 1 ∧ s = .int .i64 k ∧ u = .slice (some ⟨gk, 0, none⟩) k ck ∧ wr.ownsRow wo.heap.size 3 1 u k (ints (D (lt a) (lt b) i) k) ∧ Below wo.heap.size wo wr) (fun _ s _ => b.size + 1 - (intOf s).toNat)
      case atStart =>
        refine ⟨0, wo.heap.size, 0, Nat.zero_le _, rfl, rfl, ?_, (Below.refl _ _).alloc (Nat.le_refl _) _⟩
        exact ⟨rfl, .inr ⟨wo.heap.size, 0, #[], rfl, Nat.le_refl _, heap_alloc_last wo _, Nat.le_refl _, Nat.zero_le _, rfl, rfl⟩⟩
      case round =>
        obtain ⟨k, gk, ck, hk, rfl, rfl, hown, hbk⟩ := hrel
        by_cases hkl : k ≤ b.size
        · cases i with
          | zero =>
            have hsz := hbk.size
            go_wp2_with (first | (at_builtin; (refine wpList_append_lies _ rfl _ _ 56 rfl wo.heap.size 3 i3 (.int .i64 0) 1 8 Try.underlying56 hi3 hz3 hs3 hb3 rfl (by decide) _ k _ rfl (hown.alloc _) ⟨wr.heap.size, 0, none⟩ 1 1 [.int .i64 k] rfl rfl (cell_one_new _ _ _) (one_cell_int _) (by decide) ?c1 ?c2 ?c3 _ rfl ?_)))
            case c1 => unfold maxLen; omega
            case c2 => omega
            case c3 => simp; omega
            intro g' cap' w1 hown' hgrow hat hltg
            have hb1 : Below wo.heap.size wo w1 := below_grown (hbk.alloc hsz _) hgrow (hown.alloc _) (Nat.le_refl _) (by simp; omega)
            rw [← D_zero (lt a) (lt b) k, ← ints_succ] at hown'
            clear hgrow hat hltg hown
            go_wp2
            go_roundw
            case rel => first | exact ⟨k + 1, g', cap', by omega, by go_num, rfl, hown', hb1⟩ | ((repeat apply Exists.intro); exact ⟨⟨k + 1, g', cap', by omega, by go_num, rfl, hown', hb1⟩, rfl⟩)
            case measure => simp [intOf] <;> omega
          | succ i =>
            cases k with
            | zero =>
              have hsz := hbk.size
              go_wp2_with (first | (at_builtin; (refine wpList_append_lies _ rfl _ _ 56 rfl wo.heap.size 3 i3 (.int .i64 0) 1 8 Try.underlying56 hi3 hz3 hs3 hb3 rfl (by decide) _ 0 _ rfl (hown.alloc _) ⟨wr.heap.size, 0, none⟩ 1 1 [.int .i64 ((i : Int) + 1)] rfl rfl (cell_one_new _ _ _) (one_cell_int _) (by decide) ?c1 ?c2 ?c3 _ rfl ?_)))
              case c1 => unfold maxLen; omega
              case c2 => omega
              case c3 => simp; omega
              intro g' cap' w1 hown' hgrow hat hltg
              have hb1 : Below wo.heap.size wo w1 := below_grown (hbk.alloc hsz _) hgrow (hown.alloc _) (Nat.le_refl _) (by simp; omega)
              have e0 : D (lt a) (lt b) (i + 1) 0 = (i : Int) + 1 := D_left _ _ _
              rw [← e0, ← ints_succ] at hown'
              clear e0
              clear hgrow hat hltg hown
              go_wp2
              go_roundw
              case rel => first | exact ⟨0 + 1, g', cap', by omega, by go_num, rfl, hown', hb1⟩ | ((repeat apply Exists.intro); exact ⟨⟨0 + 1, g', cap', by omega, by go_num, rfl, hown', hb1⟩, rfl⟩)
              case measure => simp [intOf] <;> omega
            | succ k =>
              have hsz := hbk.size
              obtain ⟨g1, cp1, hc1, hcell1⟩ := HF.out.look i (by omega)
              have hg1 : g < wo.heap.size := by
                obtain ⟨vs, hvs, _⟩ := HF.out
                exact (hvs.lt g rfl).2
              have hg1' : g1 < wo.heap.size := by
                have := hcell1 0 (by omega)
                exact lt_of_cell' this
              have q1 := (hbk.cell (p := ⟨g, i, none⟩) hg1).trans hc1
              have q2 := (hbk.cell (p := ⟨g1, k, none⟩) hg1').trans (hcell1 k (by omega))
              have q3 := (hbk.cell (p := ⟨g1, k + 1, none⟩) hg1').trans (hcell1 (k + 1) (by omega))
              have q4 := ownsRow_cell hown k _ (ints_get _ _ k (by omega))
              have HOWN : Hid (wr.ownsRow wo.heap.size 3 1 (.slice (some ⟨gk, 0, none⟩) (k + 1) ck) (k + 1) (ints (D (lt a) (lt b) (i + 1)) (k + 1))) := hown
              have HC : Hid _ := hcell1
              have d1 := D_bd (lt a) (lt b) _ i k (Nat.le_refl _)
              have d2 := D_bd (lt a) (lt b) _ i (k + 1) (Nat.le_refl _)
              have d3 := D_bd (lt a) (lt b) _ (i + 1) k (Nat.le_refl _)
              have z1 : IntKind.i64.wrap (i : Int) = (i : Int) := IntWalk.i64_in _ (by omega)
              have z2 : IntKind.i64.wrap (k : Int) = (k : Int) := IntWalk.i64_in _ (by omega)
              have l1 : (i : Int) < (a.size : Int) := by omega
              have l2 : (k : Int) < (b.size : Int) := by omega
              have l3 : (i : Int) < (i : Int) + 1 := by omega
              have l4 : (k : Int) + 1 < (b.size : Int) + 1 := by omega
              have l5 : (k : Int) < (k : Int) + 1 := by omega
              have l6 : (0 : Int) ≤ (k : Int) + 1 := by omega
              have l7 : k < b.size := by omega
              have l8 : i < a.size := by omega
              clear hcell1 hc1 hown
              cases e1 : (((a[i]'(by omega)).toNat : Int) == ((b[k]'(by omega)).toNat : Int)) with
              | true =>
                have HC0 : Hid (cost (lt a) (lt b) i k = 0) := by
                  have : cost (lt a) (lt b) i k = 0 := by
                    unfold cost
                    rw [lt_get a i (by omega), lt_get b k (by omega), if_pos (by simpa [u8_int] using e1)]
                  exact this
                go_wp2
                go_quiet (fail)
                go_wp2
                go_quiet ((go_at_call 35; refine (least_any _ _ _).mono ?_; rintro e w'' ⟨rfl, rfl⟩; exact ⟨rfl, _, rfl⟩))
                go_wp2
                by_cases hi1 : i = 0
                ·
                  have HV : Hid (ls (D (lt a) (lt b) i k) (ls (D (lt a) (lt b) i (k + 1) + 1) (D (lt a) (lt b) (i + 1) k + 1)) = D (lt a) (lt b) (i + 1) (k + 1)) := (D_round2 (lt a) (lt b) i k _ (by rw [HC0.out]; omega)).1 (by rw [hi1]; exact tr_first a b k)
                  have t1 : decide ((1 : Int) < (i : Int) + 1) = false := by simp; omega
                  clear hi1
                  go_quiet (fail)
                  go_wp2_with (first | (go_at_call 35; refine (least_any _ _ _).mono ?_; rintro e w'' ⟨rfl, rfl⟩) | (at_builtin; (refine wpList_append_lies _ rfl _ _ 56 rfl wo.heap.size 3 i3 (.int .i64 0) 1 8 Try.underlying56 hi3 hz3 hs3 hb3 rfl (by decide) _ (k + 1) _ rfl (by exact World.ownsRow.alloc HOWN.out _) ⟨wr.heap.size, 0, none⟩ 1 1 [.int .i64 (ls (D (lt a) (lt b) i k) (ls (D (lt a) (lt b) i (k + 1) + 1) (D (lt a) (lt b) (i + 1) k + 1)))] rfl rfl (by exact cell_one_new _ _ _) (one_cell_int _) (by decide) ?c1 ?c2 ?c3 _ rfl ?_)))
                  case c1 => unfold maxLen; omega
                  case c2 => omega
                  case c3 => simp; omega
                  intro g' cap' w1 hown' hgrow hat hltg
                  have hb1 : Below wo.heap.size wo w1 := by
                    refine below_grown ?_ hgrow (by exact World.ownsRow.alloc HOWN.out _) (Nat.le_refl _) (by simp; omega)
                    exact (below_drewN hbk _).alloc hsz _
                  rw [HV.out, ← ints_succ] at hown'
                  clear hgrow hat hltg
                  go_wp2
                  go_roundw
                  case rel => first | exact ⟨k + 1 + 1, g', cap', by omega, by go_num, rfl, hown', hb1⟩ | ((repeat apply Exists.intro); exact ⟨⟨k + 1 + 1, g', cap', by omega, by go_num, rfl, hown', hb1⟩, rfl⟩)
                  case measure => simp [intOf] <;> omega
                by_cases hk1 : k = 0
                ·
                  have HV : Hid (ls (D (lt a) (lt b) i k) (ls (D (lt a) (lt b) i (k + 1) + 1) (D (lt a) (lt b) (i + 1) k + 1)) = D (lt a) (lt b) (i + 1) (k + 1)) := (D_round2 (lt a) (lt b) i k _ (by rw [HC0.out]; omega)).1 (by rw [hk1]; exact tr_first' a b i)
                  have t1 : (1 : Int) < (i : Int) + 1 := by omega
                  have t2 : decide ((1 : Int) < (k : Int) + 1) = false := by simp; omega
                  clear hi1 hk1
                  go_quiet (fail)
                  go_wp2_with (first | (go_at_call 35; refine (least_any _ _ _).mono ?_; rintro e w'' ⟨rfl, rfl⟩) | (at_builtin; (refine wpList_append_lies _ rfl _ _ 56 rfl wo.heap.size 3 i3 (.int .i64 0) 1 8 Try.underlying56 hi3 hz3 hs3 hb3 rfl (by decide) _ (k + 1) _ rfl (by exact World.ownsRow.alloc HOWN.out _) ⟨wr.heap.size, 0, none⟩ 1 1 [.int .i64 (ls (D (lt a) (lt b) i k) (ls (D (lt a) (lt b) i (k + 1) + 1) (D (lt a) (lt b) (i + 1) k + 1)))] rfl rfl (by exact cell_one_new _ _ _) (one_cell_int _) (by decide) ?c1 ?c2 ?c3 _ rfl ?_)))
                  case c1 => unfold maxLen; omega
                  case c2 => omega
                  case c3 => simp; omega
                  intro g' cap' w1 hown' hgrow hat hltg
                  have hb1 : Below wo.heap.size wo w1 := by
                    refine below_grown ?_ hgrow (by exact World.ownsRow.alloc HOWN.out _) (Nat.le_refl _) (by simp; omega)
                    exact (below_drewN hbk _).alloc hsz _
                  rw [HV.out, ← ints_succ] at hown'
                  clear hgrow hat hltg
                  go_wp2
                  go_roundw
                  case rel => first | exact ⟨k + 1 + 1, g', cap', by omega, by go_num, rfl, hown', hb1⟩ | ((repeat apply Exists.intro); exact ⟨⟨k + 1 + 1, g', cap', by omega, by go_num, rfl, hown', hb1⟩, rfl⟩)
                  case measure => simp [intOf] <;> omega
                have HTR : Hid _ := tr_eq a b i k (by omega) (by omega) (by omega) (by omega)
                obtain ⟨p, hp⟩ : ∃ p : Nat, i - 1 = p := ⟨_, rfl⟩
                obtain ⟨q, hq⟩ : ∃ q : Nat, k - 1 = q := ⟨_, rfl⟩
                have t1 : (1 : Int) < (i : Int) + 1 := by omega
                have t2 : (1 : Int) < (k : Int) + 1 := by omega
                have y1 : IntKind.i64.wrap ((i : Int) + 1 - 2) = (p : Int) := by rw [IntWalk.i64_in _ (by omega)]; omega
                have y2 : IntKind.i64.wrap ((k : Int) + 1 - 2) = (q : Int) := by rw [IntWalk.i64_in _ (by omega)]; omega
                have y3 : (i : Int) + 1 - 2 = (p : Int) := by omega
                have y4 : (k : Int) + 1 - 2 = (q : Int) := by omega
                have y5 : (p : Int) < (a.size : Int) := by omega
                have y6 : (q : Int) < (b.size : Int) := by omega
                have y7 : p < i + 1 := by omega
                have y8 : q < b.size + 1 := by omega
                have y9 : (p : Int) < (i : Int) + 1 := by omega
                have y10 : (q : Int) < (b.size : Int) + 1 := by omega
                have HT2 : Hid (tr (lt a) (lt b) i k = (((a[i]'(by omega)) == (b[q]'(by omega))) && ((a[p]'(by omega)) == (b[k]'(by omega))))) := by
                  have := HTR.out
                  simp only [hp, hq] at this
                  exact this
                obtain ⟨g2, cp2, hc2, hcell2⟩ := HF.out.look p (by omega)
                have hg2 : g2 < wo.heap.size := by
                  have := hcell2 0 (by omega)
                  exact lt_of_cell' this
                have q5 := (hbk.cell (p := ⟨g, p, none⟩) hg1).trans hc2
                have q6 := (hbk.cell (p := ⟨g2, q, none⟩) hg2).trans (hcell2 q (by omega))
                have d4 := D_bd (lt a) (lt b) _ p q (Nat.le_refl _)
                have HP : Hid (i - 1 = p) := hp
                have HQ : Hid (k - 1 = q) := hq
                clear HTR hc2 hcell2 hi1 hk1 hp hq
                cases e3 : ((a[i]'(by omega)) == (b[q]'(by omega))) with
                | false =>
                  have HV : Hid (ls (D (lt a) (lt b) i k) (ls (D (lt a) (lt b) i (k + 1) + 1) (D (lt a) (lt b) (i + 1) k + 1)) = D (lt a) (lt b) (i + 1) (k + 1)) := (D_round2 (lt a) (lt b) i k _ (by rw [HC0.out]; omega)).1 (by rw [HT2.out, e3]; rfl)
                  have e3' := (u8_int _ _).trans e3
                  clear e3
                  go_quiet (fail)
                  go_wp2_with (first | (go_at_call 35; refine (least_any _ _ _).mono ?_; rintro e w'' ⟨rfl, rfl⟩) | (at_builtin; (refine wpList_append_lies _ rfl _ _ 56 rfl wo.heap.size 3 i3 (.int .i64 0) 1 8 Try.underlying56 hi3 hz3 hs3 hb3 rfl (by decide) _ (k + 1) _ rfl (by exact World.ownsRow.alloc HOWN.out _) ⟨wr.heap.size, 0, none⟩ 1 1 [.int .i64 (ls (D (lt a) (lt b) i k) (ls (D (lt a) (lt b) i (k + 1) + 1) (D (lt a) (lt b) (i + 1) k + 1)))] rfl rfl (by exact cell_one_new _ _ _) (one_cell_int _) (by decide) ?c1 ?c2 ?c3 _ rfl ?_)))
                  case c1 => unfold maxLen; omega
                  case c2 => omega
                  case c3 => simp; omega
                  intro g' cap' w1 hown' hgrow hat hltg
                  have hb1 : Below wo.heap.size wo w1 := by
                    refine below_grown ?_ hgrow (by exact World.ownsRow.alloc HOWN.out _) (Nat.le_refl _) (by simp; omega)
                    exact (below_drewN hbk _).alloc hsz _
                  rw [HV.out, ← ints_succ] at hown'
                  clear hgrow hat hltg
                  go_wp2
                  go_roundw
                  case rel => first | exact ⟨k + 1 + 1, g', cap', by omega, by go_num, rfl, hown', hb1⟩ | ((repeat apply Exists.intro); exact ⟨⟨k + 1 + 1, g', cap', by omega, by go_num, rfl, hown', hb1⟩, rfl⟩)
                  case measure => simp [intOf] <;> omega
                | true =>
                  have e3' := (u8_int _ _).trans e3
                  cases e4 : ((a[p]'(by omega)) == (b[k]'(by omega))) with
                  | false =>
                    have HV : Hid (ls (D (lt a) (lt b) i k) (ls (D (lt a) (lt b) i (k + 1) + 1) (D (lt a) (lt b) (i + 1) k + 1)) = D (lt a) (lt b) (i + 1) (k + 1)) := (D_round2 (lt a) (lt b) i k _ (by rw [HC0.out]; omega)).1 (by rw [HT2.out, e3, e4]; rfl)
                    have e4' := (u8_int _ _).trans e4
                    clear e3 e4
                    go_quiet (fail)
                    go_wp2_with (first | (go_at_call 35; refine (least_any _ _ _).mono ?_; rintro e w'' ⟨rfl, rfl⟩) | (at_builtin; (refine wpList_append_lies _ rfl _ _ 56 rfl wo.heap.size 3 i3 (.int .i64 0) 1 8 Try.underlying56 hi3 hz3 hs3 hb3 rfl (by decide) _ (k + 1) _ rfl (by exact World.ownsRow.alloc HOWN.out _) ⟨wr.heap.size, 0, none⟩ 1 1 [.int .i64 (ls (D (lt a) (lt b) i k) (ls (D (lt a) (lt b) i (k + 1) + 1) (D (lt a) (lt b) (i + 1) k + 1)))] rfl rfl (by exact cell_one_new _ _ _) (one_cell_int _) (by decide) ?c1 ?c2 ?c3 _ rfl ?_)))
                    case c1 => unfold maxLen; omega
                    case c2 => omega
                    case c3 => simp; omega
                    intro g' cap' w1 hown' hgrow hat hltg
                    have hb1 : Below wo.heap.size wo w1 := by
                      refine below_grown ?_ hgrow (by exact World.ownsRow.alloc HOWN.out _) (Nat.le_refl _) (by simp; omega)
                      exact (below_drewN hbk _).alloc hsz _
                    rw [HV.out, ← ints_succ] at hown'
                    clear hgrow hat hltg
                    go_wp2
                    go_roundw
                    case rel => first | exact ⟨k + 1 + 1, g', cap', by omega, by go_num, rfl, hown', hb1⟩ | ((repeat apply Exists.intro); exact ⟨⟨k + 1 + 1, g', cap', by omega, by go_num, rfl, hown', hb1⟩, rfl⟩)
                    case measure => simp [intOf] <;> omega
                  | true =>
                    have HV : Hid (ls (ls (D (lt a) (lt b) i k) (ls (D (lt a) (lt b) i (k + 1) + 1) (D (lt a) (lt b) (i + 1) k + 1))) (D (lt a) (lt b) p q + 1) = D (lt a) (lt b) (i + 1) (k + 1)) := by
                      have := (D_round2 (lt a) (lt b) i k (D (lt a) (lt b) i k) (by rw [HC0.out]; omega)).2 (by rw [HT2.out, e3, e4]; rfl)
                      rw [HP.out, HQ.out] at this
                      exact this
                    have e4' := (u8_int _ _).trans e4
                    clear e3 e4
                    go_quiet (fail)
                    go_wp2_with (first | (go_at_call 35; refine (least_any _ _ _).mono ?_; rintro e w'' ⟨rfl, rfl⟩) | (at_builtin; (refine wpList_append_lies _ rfl _ _ 56 rfl wo.heap.size 3 i3 (.int .i64 0) 1 8 Try.underlying56 hi3 hz3 hs3 hb3 rfl (by decide) _ (k + 1) _ rfl (by exact World.ownsRow.alloc HOWN.out _) ⟨wr.heap.size, 0, none⟩ 1 1 [.int .i64 (ls (ls (D (lt a) (lt b) i k) (ls (D (lt a) (lt b) i (k + 1) + 1) (D (lt a) (lt b) (i + 1) k + 1))) (D (lt a) (lt b) p q + 1))] rfl rfl (by exact cell_one_new _ _ _) (one_cell_int _) (by decide) ?c1 ?c2 ?c3 _ rfl ?_)))
                    case c1 => unfold maxLen; omega
                    case c2 => omega
                    case c3 => simp; omega
                    intro g' cap' w1 hown' hgrow hat hltg
                    have hb1 : Below wo.heap.size wo w1 := by
                      refine below_grown ?_ hgrow (by exact World.ownsRow.alloc HOWN.out _) (Nat.le_refl _) (by simp; omega)
                      exact (below_drewN hbk _).alloc hsz _
                    rw [HV.out, ← ints_succ] at hown'
                    clear hgrow hat hltg
                    go_wp2
                    go_roundw
                    case rel => first | exact ⟨k + 1 + 1, g', cap', by omega, by go_num, rfl, hown', hb1⟩ | ((repeat apply Exists.intro); exact ⟨⟨k + 1 + 1, g', cap', by omega, by go_num, rfl, hown', hb1⟩, rfl⟩)
                    case measure => simp [intOf] <;> omega
              | false =>
                have HC0 : Hid (cost (lt a) (lt b) i k = 1) := by
                  have : cost (lt a) (lt b) i k = 1 := by
                    unfold cost
                    rw [lt_get a i (by omega), lt_get b k (by omega), if_neg (by simpa [u8_int] using e1)]
                  exact this
                go_wp2
                go_quiet (fail)
                go_wp2
                go_quiet ((go_at_call 35; refine (least_any _ _ _).mono ?_; rintro e w'' ⟨rfl, rfl⟩; exact ⟨rfl, _, rfl⟩))
                go_wp2
                by_cases hi1 : i = 0
                ·
                  have HV : Hid (ls (D (lt a) (lt b) i k + 1) (ls (D (lt a) (lt b) i (k + 1) + 1) (D (lt a) (lt b) (i + 1) k + 1)) = D (lt a) (lt b) (i + 1) (k + 1)) := (D_round2 (lt a) (lt b) i k _ (by rw [HC0.out])).1 (by rw [hi1]; exact tr_first a b k)
                  have t1 : decide ((1 : Int) < (i : Int) + 1) = false := by simp; omega
                  clear hi1
                  go_quiet (fail)
                  go_wp2_with (first | (go_at_call 35; refine (least_any _ _ _).mono ?_; rintro e w'' ⟨rfl, rfl⟩) | (at_builtin; (refine wpList_append_lies _ rfl _ _ 56 rfl wo.heap.size 3 i3 (.int .i64 0) 1 8 Try.underlying56 hi3 hz3 hs3 hb3 rfl (by decide) _ (k + 1) _ rfl (by exact World.ownsRow.alloc HOWN.out _) ⟨wr.heap.size, 0, none⟩ 1 1 [.int .i64 (ls (D (lt a) (lt b) i k + 1) (ls (D (lt a) (lt b) i (k + 1) + 1) (D (lt a) (lt b) (i + 1) k + 1)))] rfl rfl (by exact cell_one_new _ _ _) (one_cell_int _) (by decide) ?c1 ?c2 ?c3 _ rfl ?_)))
                  case c1 => unfold maxLen; omega
                  case c2 => omega
                  case c3 => simp; omega
                  intro g' cap' w1 hown' hgrow hat hltg
                  have hb1 : Below wo.heap.size wo w1 := by
                    refine below_grown ?_ hgrow (by exact World.ownsRow.alloc HOWN.out _) (Nat.le_refl _) (by simp; omega)
                    exact (below_drewN hbk _).alloc hsz _
                  rw [HV.out, ← ints_succ] at hown'
                  clear hgrow hat hltg
                  go_wp2
                  go_roundw
                  case rel => first | exact ⟨k + 1 + 1, g', cap', by omega, by go_num, rfl, hown', hb1⟩ | ((repeat apply Exists.intro); exact ⟨⟨k + 1 + 1, g', cap', by omega, by go_num, rfl, hown', hb1⟩, rfl⟩)
                  case measure => simp [intOf] <;> omega
                by_cases hk1 : k = 0
                ·
                  have HV : Hid (ls (D (lt a) (lt b) i k + 1) (ls (D (lt a) (lt b) i (k + 1) + 1) (D (lt a) (lt b) (i + 1) k + 1)) = D (lt a) (lt b) (i + 1) (k + 1)) := (D_round2 (lt a) (lt b) i k _ (by rw [HC0.out])).1 (by rw [hk1]; exact tr_first' a b i)
                  have t1 : (1 : Int) < (i : Int) + 1 := by omega
                  have t2 : decide ((1 : Int) < (k : Int) + 1) = false := by simp; omega
                  clear hi1 hk1
                  go_quiet (fail)
                  go_wp2_with (first | (go_at_call 35; refine (least_any _ _ _).mono ?_; rintro e w'' ⟨rfl, rfl⟩) | (at_builtin; (refine wpList_append_lies _ rfl _ _ 56 rfl wo.heap.size 3 i3 (.int .i64 0) 1 8 Try.underlying56 hi3 hz3 hs3 hb3 rfl (by decide) _ (k + 1) _ rfl (by exact World.ownsRow.alloc HOWN.out _) ⟨wr.heap.size, 0, none⟩ 1 1 [.int .i64 (ls (D (lt a) (lt b) i k + 1) (ls (D (lt a) (lt b) i (k + 1) + 1) (D (lt a) (lt b) (i + 1) k + 1)))] rfl rfl (by exact cell_one_new _ _ _) (one_cell_int _) (by decide) ?c1 ?c2 ?c3 _ rfl ?_)))
                  case c1 => unfold maxLen; omega
                  case c2 => omega
                  case c3 => simp; omega
                  intro g' cap' w1 hown' hgrow hat hltg
                  have hb1 : Below wo.heap.size wo w1 := by
                    refine below_grown ?_ hgrow (by exact World.ownsRow.alloc HOWN.out _) (Nat.le_refl _) (by simp; omega)
                    exact (below_drewN hbk _).alloc hsz _
                  rw [HV.out, ← ints_succ] at hown'
                  clear hgrow hat hltg
                  go_wp2
                  go_roundw
                  case rel => first | exact ⟨k + 1 + 1, g', cap', by omega, by go_num, rfl, hown', hb1⟩ | ((repeat apply Exists.intro); exact ⟨⟨k + 1 + 1, g', cap', by omega, by go_num, rfl, hown', hb1⟩, rfl⟩)
                  case measure => simp [intOf] <;> omega
                have HTR : Hid _ := tr_eq a b i k (by omega) (by omega) (by omega) (by omega)
                obtain ⟨p, hp⟩ : ∃ p : Nat, i - 1 = p := ⟨_, rfl⟩
                obtain ⟨q, hq⟩ : ∃ q : Nat, k - 1 = q := ⟨_, rfl⟩
                have t1 : (1 : Int) < (i : Int) + 1 := by omega
                have t2 : (1 : Int) < (k : Int) + 1 := by omega
                have y1 : IntKind.i64.wrap ((i : Int) + 1 - 2) = (p : Int) := by rw [IntWalk.i64_in _ (by omega)]; omega
                have y2 : IntKind.i64.wrap ((k : Int) + 1 - 2) = (q : Int) := by rw [IntWalk.i64_in _ (by omega)]; omega
                have y3 : (i : Int) + 1 - 2 = (p : Int) := by omega
                have y4 : (k : Int) + 1 - 2 = (q : Int) := by omega
                have y5 : (p : Int) < (a.size : Int) := by omega
                have y6 : (q : Int) < (b.size : Int) := by omega
                have y7 : p < i + 1 := by omega
                have y8 : q < b.size + 1 := by omega
                have y9 : (p : Int) < (i : Int) + 1 := by omega
                have y10 : (q : Int) < (b.size : Int) + 1 := by omega
                have HT2 : Hid (tr (lt a) (lt b) i k = (((a[i]'(by omega)) == (b[q]'(by omega))) && ((a[p]'(by omega)) == (b[k]'(by omega))))) := by
                  have := HTR.out
                  simp only [hp, hq] at this
                  exact this
                obtain ⟨g2, cp2, hc2, hcell2⟩ := HF.out.look p (by omega)
                have hg2 : g2 < wo.heap.size := by
                  have := hcell2 0 (by omega)
                  exact lt_of_cell' this
                have q5 := (hbk.cell (p := ⟨g, p, none⟩) hg1).trans hc2
                have q6 := (hbk.cell (p := ⟨g2, q, none⟩) hg2).trans (hcell2 q (by omega))
                have d4 := D_bd (lt a) (lt b) _ p q (Nat.le_refl _)
                have HP : Hid (i - 1 = p) := hp
                have HQ : Hid (k - 1 = q) := hq
                clear HTR hc2 hcell2 hi1 hk1 hp hq
                cases e3 : ((a[i]'(by omega)) == (b[q]'(by omega))) with
                | false =>
                  have HV : Hid (ls (D (lt a) (lt b) i k + 1) (ls (D (lt a) (lt b) i (k + 1) + 1) (D (lt a) (lt b) (i + 1) k + 1)) = D (lt a) (lt b) (i + 1) (k + 1)) := (D_round2 (lt a) (lt b) i k _ (by rw [HC0.out])).1 (by rw [HT2.out, e3]; rfl)
                  have e3' := (u8_int _ _).trans e3
                  clear e3
                  go_quiet (fail)
                  go_wp2_with (first | (go_at_call 35; refine (least_any _ _ _).mono ?_; rintro e w'' ⟨rfl, rfl⟩) | (at_builtin; (refine wpList_append_lies _ rfl _ _ 56 rfl wo.heap.size 3 i3 (.int .i64 0) 1 8 Try.underlying56 hi3 hz3 hs3 hb3 rfl (by decide) _ (k + 1) _ rfl (by exact World.ownsRow.alloc HOWN.out _) ⟨wr.heap.size, 0, none⟩ 1 1 [.int .i64 (ls (D (lt a) (lt b) i k + 1) (ls (D (lt a) (lt b) i (k + 1) + 1) (D (lt a) (lt b) (i + 1) k + 1)))] rfl rfl (by exact cell_one_new _ _ _) (one_cell_int _) (by decide) ?c1 ?c2 ?c3 _ rfl ?_)))
                  case c1 => unfold maxLen; omega
                  case c2 => omega
                  case c3 => simp; omega
                  intro g' cap' w1 hown' hgrow hat hltg
                  have hb1 : Below wo.heap.size wo w1 := by
                    refine below_grown ?_ hgrow (by exact World.ownsRow.alloc HOWN.out _) (Nat.le_refl _) (by simp; omega)
                    exact (below_drewN hbk _).alloc hsz _
                  rw [HV.out, ← ints_succ] at hown'
                  clear hgrow hat hltg
                  go_wp2
                  go_roundw
                  case rel => first | exact ⟨k + 1 + 1, g', cap', by omega, by go_num, rfl, hown', hb1⟩ | ((repeat apply Exists.intro); exact ⟨⟨k + 1 + 1, g', cap', by omega, by go_num, rfl, hown', hb1⟩, rfl⟩)
                  case measure => simp [intOf] <;> omega
                | true =>
                  have e3' := (u8_int _ _).trans e3
                  cases e4 : ((a[p]'(by omega)) == (b[k]'(by omega))) with
                  | false =>
                    have HV : Hid (ls (D (lt a) (lt b) i k + 1) (ls (D (lt a) (lt b) i (k + 1) + 1) (D (lt a) (lt b) (i + 1) k + 1)) = D (lt a) (lt b) (i + 1) (k + 1)) := (D_round2 (lt a) (lt b) i k _ (by rw [HC0.out])).1 (by rw [HT2.out, e3, e4]; rfl)
                    have e4' := (u8_int _ _).trans e4
                    clear e3 e4
                    go_quiet (fail)
                    go_wp2_with (first | (go_at_call 35; refine (least_any _ _ _).mono ?_; rintro e w'' ⟨rfl, rfl⟩) | (at_builtin; (refine wpList_append_lies _ rfl _ _ 56 rfl wo.heap.size 3 i3 (.int .i64 0) 1 8 Try.underlying56 hi3 hz3 hs3 hb3 rfl (by decide) _ (k + 1) _ rfl (by exact World.ownsRow.alloc HOWN.out _) ⟨wr.heap.size, 0, none⟩ 1 1 [.int .i64 (ls (D (lt a) (lt b) i k + 1) (ls (D (lt a) (lt b) i (k + 1) + 1) (D (lt a) (lt b) (i + 1) k + 1)))] rfl rfl (by exact cell_one_new _ _ _) (one_cell_int _) (by decide) ?c1 ?c2 ?c3 _ rfl ?_)))
                    case c1 => unfold maxLen; omega
                    case c2 => omega
                    case c3 => simp; omega
                    intro g' cap' w1 hown' hgrow hat hltg
                    have hb1 : Below wo.heap.size wo w1 := by
                      refine below_grown ?_ hgrow (by exact World.ownsRow.alloc HOWN.out _) (Nat.le_refl _) (by simp; omega)
                      exact (below_drewN hbk _).alloc hsz _
                    rw [HV.out, ← ints_succ] at hown'
                    clear hgrow hat hltg
                    go_wp2
                    go_roundw
                    case rel => first | exact ⟨k + 1 + 1, g', cap', by omega, by go_num, rfl, hown', hb1⟩ | ((repeat apply Exists.intro); exact ⟨⟨k + 1 + 1, g', cap', by omega, by go_num, rfl, hown', hb1⟩, rfl⟩)
                    case measure => simp [intOf] <;> omega
                  | true =>
                    have HV : Hid (ls (ls (D (lt a) (lt b) i k + 1) (ls (D (lt a) (lt b) i (k + 1) + 1) (D (lt a) (lt b) (i + 1) k + 1))) (D (lt a) (lt b) p q + 1) = D (lt a) (lt b) (i + 1) (k + 1)) := by
                      have := (D_round2 (lt a) (lt b) i k (D (lt a) (lt b) i k + 1) (by rw [HC0.out])).2 (by rw [HT2.out, e3, e4]; rfl)
                      rw [HP.out, HQ.out] at this
                      exact this
                    have e4' := (u8_int _ _).trans e4
                    clear e3 e4
                    go_quiet (fail)
                    go_wp2_with (first | (go_at_call 35; refine (least_any _ _ _).mono ?_; rintro e w'' ⟨rfl, rfl⟩) | (at_builtin; (refine wpList_append_lies _ rfl _ _ 56 rfl wo.heap.size 3 i3 (.int .i64 0) 1 8 Try.underlying56 hi3 hz3 hs3 hb3 rfl (by decide) _ (k + 1) _ rfl (by exact World.ownsRow.alloc HOWN.out _) ⟨wr.heap.size, 0, none⟩ 1 1 [.int .i64 (ls (ls (D (lt a) (lt b) i k + 1) (ls (D (lt a) (lt b) i (k + 1) + 1) (D (lt a) (lt b) (i + 1) k + 1))) (D (lt a) (lt b) p q + 1))] rfl rfl (by exact cell_one_new _ _ _) (one_cell_int _) (by decide) ?c1 ?c2 ?c3 _ rfl ?_)))
                    case c1 => unfold maxLen; omega
                    case c2 => omega
                    case c3 => simp; omega
                    intro g' cap' w1 hown' hgrow hat hltg
                    have hb1 : Below wo.heap.size wo w1 := by
                      refine below_grown ?_ hgrow (by exact World.ownsRow.alloc HOWN.out _) (Nat.le_refl _) (by simp; omega)
                      exact (below_drewN hbk _).alloc hsz _
                    rw [HV.out, ← ints_succ] at hown'
                    clear hgrow hat hltg
                    go_wp2
                    go_roundw
                    case rel => first | exact ⟨k + 1 + 1, g', cap', by omega, by go_num, rfl, hown', hb1⟩ | ((repeat apply Exists.intro); exact ⟨⟨k + 1 + 1, g', cap', by omega, by go_num, rfl, hown', hb1⟩, rfl⟩)
                    case measure => simp [intOf] <;> omega
        · have hk' : k = b.size + 1 := by omega
          subst hk'
          have hsz := hbk.size
          have HOWN : Hid (wr.ownsRow wo.heap.size 3 1 (.slice (some ⟨gk, 0, none⟩) (b.size + 1) ck) (b.size + 1) (ints (D (lt a) (lt b) i) (b.size + 1))) := hown
          obtain ⟨vs, hvs, hrows⟩ := HF.out
          have hvs' := ownsRow_below hvs hbk (Nat.le_refl _)
          have hrows' : ∀ n, n < i → ∃ u, vs[n]? = some u ∧ wr.ownsRow w.heap.size 3 1 u (b.size + 1) (ints (D (lt a) (lt b) n) (b.size + 1)) := fun n hn => by
            obtain ⟨u, h1, h2⟩ := hrows n hn
            exact ⟨u, h1, ownsRow_below h2 hbk (Nat.le_refl _)⟩
          have HR : Hid (∀ n, n < i → ∃ u, vs[n]? = some u ∧ wr.ownsRow w.heap.size 3 1 u (b.size + 1) (ints (D (lt a) (lt b) n) (b.size + 1))) := hrows'
          have HVS : Hid (wr.ownsRow w.heap.size 56 1 (.slice (some ⟨g, 0, none⟩) i cap) i vs) := hvs'
          have hsw := hbel.size
          clear hown hvs hvs' hrows hrows'
          go_wp2_with (first | (at_builtin; (refine wpList_append_lies _ rfl _ _ 55 rfl w.heap.size 56 i4 (.slice none 0 0) 1 24 Try.underlying55 hi4 hz4 hs4 hb4 rfl (by decide) _ i _ rfl (by exact World.ownsRow.alloc HVS.out _) ⟨wr.heap.size, 0, none⟩ 1 1 [.slice (some ⟨gk, 0, none⟩) (b.size + 1) ck] rfl rfl (by exact cell_one_new _ _ _) (one_cell_slice _ _ _) (by decide) ?c1 ?c2 ?c3 _ rfl ?_)))
          case c1 => unfold maxLen; omega
          case c2 => omega
          case c3 => simp; omega
          intro g' cap' w1 hown' hgrow hat hltg
          have hfr : FarRows (lt a) (lt b) b.size w.heap.size (.slice (some ⟨g', 0, none⟩) (i + 1) cap') (i + 1) w1 :=
            FarRows.push (World.ownsRow.alloc HVS.out _) (fun n hn => by obtain ⟨u, h1, h2⟩ := HR.out n hn; exact ⟨u, h1, h2.alloc _⟩) (ownsRow_wider (World.ownsRow.alloc HOWN.out _) hsw) hown' hgrow
          have hb1 : Below w.heap.size w w1 := below_grown ((hbel.trans (hbk.mono hsw)).alloc (by omega) _) hgrow (World.ownsRow.alloc HVS.out _) (Nat.le_refl _) (by simp; omega)
          clear hgrow hat hltg hown'
          go_wp2
          go_roundw
          case rel => first | exact ⟨i + 1, g', cap', by omega, by go_num, rfl, hfr, hb1⟩ | ((repeat apply Exists.intro); exact ⟨⟨i + 1, g', cap', by omega, by go_num, rfl, hfr, hb1⟩, rfl⟩)
          case measure => simp [intOf] <;> omega
    · have hi' : i = a.size + 1 := by omega
      subst hi'
      obtain ⟨g1, cp1, hc1, hcell1⟩ := HF.out.look a.size (by omega)
      have q2 := hcell1 b.size (by omega)
      have HFAR : Hid (far a b = D (lt a) (lt b) a.size b.size) := Eq.refl (far a b)
      clear hcell1
      go_wp2
      go_ret
      rw [HFAR.out]
      exact ⟨rfl, hbel⟩
end Go.Proofs.Ytnbjjdbaddiijaa
