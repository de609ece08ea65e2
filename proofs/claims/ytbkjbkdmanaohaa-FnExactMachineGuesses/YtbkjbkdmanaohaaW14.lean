/-
  What spec.l1Step and spec.l1Near do: all words of one step, in order.
-/
import Derived.Test.YtbkjbkdmanaohaaGM5
import Derived.Test.YtbkjbkdmanaohaaW13
import Derived.Laws.BytesArg
import Derived.Deep.RegionWith
import Derived.Deep.DeepCutAuto
namespace Go.Proofs.Ytbkjbkdmanaohaa
open Go.RowKit
set_option linter.unusedVariables false
set_option maxHeartbeats 1000000 in
theorem l1Step_any (w : World) (v : Value) (ss : List ByteArray) (s x : ByteArray) (h : TextRow w v ss) (hn : ss.length ≤ 100000) (hx : x.size ≤ maxLen) :
    Calls Try.prog 55 #[v, .string s, .string x] w fun e w' => ∃ v', e = .returned v' ∧ TextRow w' v' (stepP s ss x) ∧ Below w.heap.size w w' := by
  have HT : Hid (TextRow w v ss) := h
  clear h
  cases he : (x.toList == s.toList) with
  | true =>
    have HS : Hid (stepP s ss x = ss) := if_pos (.inl (toList_inj' (by simpa using he)))
    go_enter Try.func55, Try.ntmps55
    go_wp2
    go_ret
    rw [HS.out]
    exact ⟨_, rfl, HT.out, Below.refl _ _⟩
  | false =>
    have hne : x ≠ s := by rintro rfl; simp at he
    cases hw : wok x with
    | false =>
      have HS : Hid (stepP s ss x = ss) := if_pos (.inr hw)
      go_enter Try.func55, Try.ntmps55
      go_wp2_with (go_at_call 32; refine (l1Word_any _ _ hx).mono ?_; rintro e w' ⟨rfl, rfl⟩)
      go_ret
      rw [HS.out]
      exact ⟨_, rfl, HT.out, Below.refl _ _⟩
    | true =>
      have HS : Hid (stepP s ss x = put ss x) := if_neg (by rintro (h | h); exact hne h; rw [hw] at h; cases h)
      clear hne
      go_enter Try.func55, Try.ntmps55
      go_wp2_with (first | (go_at_call 32; refine (l1Word_any _ _ hx).mono ?_; rintro e w' ⟨rfl, rfl⟩) | (go_at_call 64; refine (l1Put_any _ _ _ _ HT.out hn).mono ?_; rintro e w1 ⟨v1, rfl, ht1, hb1⟩))
      go_ret
      rw [HS.out]
      exact ⟨_, rfl, ht1, hb1⟩
theorem conv_one (j b : Nat) (wx : World) (h : wx.cell? ⟨b, 0, none⟩ = some (.int .u8 (97 + (j : Int)))) :
    (convert 61 9 (.slice (some ⟨b, 0, none⟩) 1 1)).run Try.prog wx = .ok (.string (chr (97 + j))) wx := by
  have h1 := run_convert_bytes_arg (P := Try.prog) wx 61 5 Try.underlying61 Try.underlying5 b 0 1 1 [97 + (j : Int)] rfl (fun i hi => by
    have : i = 0 := by omega
    subst this
    exact h) 9 Try.underlying9
  rw [h1]
  have e : (97 + (j : Int)).toNat = 97 + j := by omega
  simp [strOfNums, chr, e]
theorem chr_size (c : Nat) : (chr c).size = 1 := rfl
theorem ext_size (s : ByteArray) (a b : Nat) (h : b ≤ s.size) : (s.extract a b).size = b - a := by simp; omega
theorem size_ins (s : ByteArray) (i c : Nat) (h : s.size ≤ 12) : (insT s i c).size ≤ maxLen := by
  unfold insT maxLen
  rw [ByteArray.size_append, ByteArray.size_append, chr_size]; simp; omega
theorem size_chg (s : ByteArray) (i c : Nat) (h : s.size ≤ 12) : (chgT s i c).size ≤ maxLen := by
  unfold chgT maxLen
  rw [ByteArray.size_append, ByteArray.size_append, chr_size]; simp; omega
theorem size_del (s : ByteArray) (i : Nat) (h : s.size ≤ 12) : (delT s i).size ≤ maxLen := by
  unfold delT maxLen
  rw [ByteArray.size_append]; simp; omega
theorem size_swp (s : ByteArray) (i : Nat) (h : s.size ≤ 12) : (swpT s i).size ≤ maxLen := by
  unfold swpT maxLen
  rw [ByteArray.size_append, ByteArray.size_append, ByteArray.size_append]; simp; omega
set_option maxRecDepth 100000 in
set_option maxHeartbeats 8000000 in
theorem l1Near_any (s : ByteArray) (w : World) (hs : s.size ≤ 12) :
    Calls Try.prog 33 #[.string s] w fun e w' => ∃ v, e = .returned v ∧ TextRow w' v (near s) ∧ Below w.heap.size w w' := by
  go_enter Try.func33, Try.ntmps33
  go_wp2
  go_loopw [3, 4] (fun v c wr => ∃ i : Nat, i ≤ s.size + 1 ∧ c = .int .i64 i ∧ TextRow wr v (nearTo s i) ∧ Below w.heap.size w wr) (fun _ c _ => s.size + 1 - (intOf c).toNat)
  case atStart =>
    refine ⟨0, Nat.zero_le _, rfl, ⟨w.heap.size, 0, rfl, Nat.le_refl _, fun i s hs => ?_, #[], heap_alloc_last w _⟩, (Below.refl _ _).alloc (Nat.le_refl _) _⟩
    simp [nearTo] at hs
  case round =>
    rename World => wo
    obtain ⟨i, hi, rfl, ht, hbel⟩ := hrel
    have hln := nearTo_length s i
    have z3 : IntKind.i64.wrap ((i : Int) + 1) = (i : Int) + 1 := IntWalk.i64_in _ (by omega)
    have z4 : IntKind.i64.wrap ((i : Int) + 2) = (i : Int) + 2 := IntWalk.i64_in _ (by omega)
    have HT : Hid (TextRow wo u3 (nearTo s i)) := ht
    clear ht
    by_cases hlt : i ≤ s.size
    · go_wp2
      go_loopw [3, 5] (fun v c wr => ∃ j : Nat, j ≤ 26 ∧ c = .int .i32 (97 + j) ∧ TextRow wr v (innerTo s i (nearTo s i) j) ∧ Below w.heap.size w wr) (fun _ c _ => 123 - (intOf c).toNat)
      case atStart => exact ⟨0, Nat.zero_le _, rfl, HT.out, hbel⟩
      case round =>
        obtain ⟨j, hj, rfl, ht, hbj⟩ := hrel
        have hlj := innerTo_length s i (nearTo s i) j
        have HTJ : Hid (TextRow wr u3 (innerTo s i (nearTo s i) j)) := ht
        clear ht
        by_cases hj2 : j < 26
        · have z1 : IntKind.u8.wrap (97 + (j : Int)) = 97 + (j : Int) := IntWalk.u8_in _ (by omega)
          have l1 : (i : Int) ≤ (s.size : Int) := by omega
          have hcv := fun b wx => conv_one j b wx
          have hc1 := chr_size (97 + j)
          have x1 := ext_size s 0 i (by omega)
          have x2 := ext_size s i s.size (by omega)
          have x3 := ext_size s (i + 1) s.size (by omega)
          go_wp2
          go_cut [3] (fun v wx => TextRow wx v (stepP s (innerTo s i (nearTo s i) j) (insT s i (97 + j))) ∧ Below wr.heap.size wr wx)
          case first =>
            go_region_with (go_at_call 55; refine (l1Step_any _ _ _ s (insT s i (97 + j)) (by refine HTJ.out.below ?_; repeat (first | exact Below.refl _ _ | refine Below.drew ?_ | refine Below.alloc ?_ (Nat.le_refl _) _)) (by omega) (size_ins s i _ hs)).mono ?_; rintro e w1 ⟨v1, rfl, ht1, hb1⟩)
            go_wp2
            go_meet
            case rel => exact ⟨ht1, Below.trans (by repeat (first | exact Below.refl _ _ | refine Below.drew ?_ | refine Below.alloc ?_ (Nat.le_refl _) _)) (hb1.mono (by simp))⟩
          case rest =>
            obtain ⟨htc, hbc⟩ := hcut
            have hls := stepP_length s (innerTo s i (nearTo s i) j) (insT s i (97 + j))
            have hbw : Below w.heap.size w wc := hbj.trans (hbc.mono hbj.size)
            by_cases hi2 : i < s.size
            · have HC : Hid (innerTo s i (nearTo s i) (j + 1) = stepP s (stepP s (innerTo s i (nearTo s i) j) (insT s i (97 + j))) (chgT s i (97 + j))) := by
                have : innerTo s i (nearTo s i) (j + 1) = stepP s (stepP s (innerTo s i (nearTo s i) j) (insT s i (97 + j))) (chgT s i (97 + j)) := by
                  rw [innerTo_succ]; unfold candsC; rw [if_pos hi2]; rfl
                exact this
              have l2 : (i : Int) + 1 ≤ (s.size : Int) := by omega
              have l4 : (0 : Int) ≤ (i : Int) + 1 := by omega
              have HTC : Hid (TextRow wc u3 (stepP s (innerTo s i (nearTo s i) j) (insT s i (97 + j)))) := htc
              clear htc
              go_wp2
              go_region_with (go_at_call 55; refine (l1Step_any _ _ _ s (chgT s i (97 + j)) (by refine TextRow.below HTC.out ?_; repeat (first | exact Below.refl _ _ | refine Below.drew ?_ | refine Below.alloc ?_ (Nat.le_refl _) _)) (by omega) (size_chg s i _ hs)).mono ?_; rintro e w2 ⟨v2, rfl, ht2, hb2⟩)
              have hb3 : Below w.heap.size w w2 := hbw.trans ((Below.trans (by repeat (first | exact Below.refl _ _ | refine Below.drew ?_ | refine Below.alloc ?_ (Nat.le_refl _) _)) (hb2.mono (by simp)) : Below wc.heap.size wc w2).mono hbw.size)
              go_wp2
              go_roundw
              case rel => exact ⟨j + 1, by omega, by go_num, by rw [HC.out]; exact ht2, hb3⟩
              case measure => simp [intOf]; omega
            · have HC : Hid (innerTo s i (nearTo s i) (j + 1) = stepP s (innerTo s i (nearTo s i) j) (insT s i (97 + j))) := by
                have : innerTo s i (nearTo s i) (j + 1) = stepP s (innerTo s i (nearTo s i) j) (insT s i (97 + j)) := by
                  rw [innerTo_succ]; unfold candsC; rw [if_neg hi2]; rfl
                exact this
              have HTC : Hid (TextRow wc u3 (stepP s (innerTo s i (nearTo s i) j) (insT s i (97 + j)))) := htc
              clear htc
              go_wp2
              go_roundw
              case rel => exact ⟨j + 1, by omega, by go_num, by rw [HC.out]; exact HTC.out, hbw⟩
              case measure => simp [intOf]; omega
        · have hj26 : j = 26 := by omega
          subst hj26
          by_cases hi2 : i + 1 < s.size
          · have HN : Hid (nearTo s (i + 1) = stepP s (stepP s (innerTo s i (nearTo s i) 26) (delT s i)) (swpT s i)) := by
              have : nearTo s (i + 1) = stepP s (stepP s (innerTo s i (nearTo s i) 26) (delT s i)) (swpT s i) := by
                rw [nearTo_succ]; unfold candsE; rw [if_pos (by omega), if_pos hi2]; rfl
              exact this
            have l2 : (i : Int) + 1 ≤ (s.size : Int) := by omega
            have l3 : (i : Int) + 2 ≤ (s.size : Int) := by omega
            have l4 : (0 : Int) ≤ (i : Int) + 1 := by omega
            have l5 : (i : Int) + 1 ≤ (i : Int) + 2 := by omega
            have l6 : (i : Int) ≤ (i : Int) + 1 := by omega
            have l7 : (0 : Int) ≤ (i : Int) + 2 := by omega
            have x1 := ext_size s 0 i (by omega)
            have x3 := ext_size s (i + 1) s.size (by omega)
            have x4 := ext_size s (i + 1) (i + 2) (by omega)
            have x5 := ext_size s i (i + 1) (by omega)
            have x6 := ext_size s (i + 2) s.size (by omega)
            have hls := stepP_length s (innerTo s i (nearTo s i) 26) (delT s i)
            go_wp2
            go_region_with (go_at_call 55; refine (l1Step_any _ _ _ s (delT s i) (by refine TextRow.below HTJ.out ?_; repeat (first | exact Below.refl _ _ | refine Below.drew ?_ | refine Below.alloc ?_ (Nat.le_refl _) _)) (by omega) (size_del s i hs)).mono ?_; rintro e w2 ⟨v2, rfl, ht2, hb2⟩)
            have HT2 : Hid (TextRow w2 v2 (stepP s (innerTo s i (nearTo s i) 26) (delT s i))) := ht2
            have hb3 : Below w.heap.size w w2 := hbj.trans ((Below.trans (by repeat (first | exact Below.refl _ _ | refine Below.drew ?_ | refine Below.alloc ?_ (Nat.le_refl _) _)) (hb2.mono (by simp)) : Below wr.heap.size wr w2).mono hbj.size)
            clear ht2
            go_wp2
            go_region_with (go_at_call 55; refine (l1Step_any _ _ _ s (swpT s i) (by refine TextRow.below HT2.out ?_; repeat (first | exact Below.refl _ _ | refine Below.drew ?_ | refine Below.alloc ?_ (Nat.le_refl _) _)) (by omega) (size_swp s i hs)).mono ?_; rintro e w4 ⟨v4, rfl, ht4, hb4⟩)
            have hb5 : Below w.heap.size w w4 := hb3.trans ((Below.trans (by repeat (first | exact Below.refl _ _ | refine Below.drew ?_ | refine Below.alloc ?_ (Nat.le_refl _) _)) (hb4.mono (by simp)) : Below w2.heap.size w2 w4).mono hb3.size)
            go_wp2
            go_roundw
            case rel => exact ⟨i + 1, by omega, by go_num, by rw [HN.out]; exact ht4, hb5⟩
            case measure => simp [intOf]; omega
          · by_cases hi3 : i < s.size
            · have HN : Hid (nearTo s (i + 1) = stepP s (innerTo s i (nearTo s i) 26) (delT s i)) := by
                have : nearTo s (i + 1) = stepP s (innerTo s i (nearTo s i) 26) (delT s i) := by
                  rw [nearTo_succ]; unfold candsE; rw [if_pos (by omega), if_neg hi2]; rfl
                exact this
              have l2 : (i : Int) + 1 ≤ (s.size : Int) := by omega
              have l4 : (0 : Int) ≤ (i : Int) + 1 := by omega
              have x1 := ext_size s 0 i (by omega)
              have x3 := ext_size s (i + 1) s.size (by omega)
              go_wp2
              go_region_with (go_at_call 55; refine (l1Step_any _ _ _ s (delT s i) (by refine TextRow.below HTJ.out ?_; repeat (first | exact Below.refl _ _ | refine Below.drew ?_ | refine Below.alloc ?_ (Nat.le_refl _) _)) (by omega) (size_del s i hs)).mono ?_; rintro e w2 ⟨v2, rfl, ht2, hb2⟩)
              have hb3 : Below w.heap.size w w2 := hbj.trans ((Below.trans (by repeat (first | exact Below.refl _ _ | refine Below.drew ?_ | refine Below.alloc ?_ (Nat.le_refl _) _)) (hb2.mono (by simp)) : Below wr.heap.size wr w2).mono hbj.size)
              go_wp2
              go_roundw
              case rel => exact ⟨i + 1, by omega, by go_num, by rw [HN.out]; exact ht2, hb3⟩
              case measure => simp [intOf]; omega
            · have HN : Hid (nearTo s (i + 1) = innerTo s i (nearTo s i) 26) := by
                have : nearTo s (i + 1) = innerTo s i (nearTo s i) 26 := by
                  rw [nearTo_succ]; unfold candsE; rw [if_neg (by omega), if_neg hi2]; rfl
                exact this
              go_wp2
              go_roundw
              case rel => exact ⟨i + 1, by omega, by go_num, by rw [HN.out]; exact HTJ.out, hbj⟩
              case measure => simp [intOf]; omega
    · have hi' : i = s.size + 1 := by omega
      subst hi'
      go_wp2
      go_ret
      exact ⟨_, rfl, HT.out, hbel⟩
end Go.Proofs.Ytbkjbkdmanaohaa
