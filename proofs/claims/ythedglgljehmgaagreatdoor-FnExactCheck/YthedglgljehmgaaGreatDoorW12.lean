/-
  Drawn words: a reader over a code; what l13Word and l13AnyWord draw; the law FnWordOk.
-/
import Derived.Test.YthedglgljehmgaaGreatDoorGW2
import Derived.Test.YthedglgljehmgaaGreatDoorW8
import Derived.Test.YthedglgljehmgaaGreatDoorW11
namespace Go.Proofs.YthedglgljehmgaaGreatDoor
open Go.RowKit
set_option linter.unusedVariables false
/-- What the walk is told of a slice of integers that came in. -/
def IsRow (k : IntKind) (w : World) (a : Option Addr) (len cap : Nat) (zs : List Int) : Prop :=
  (a = none ∧ len = 0 ∧ cap = 0 ∧ zs = []) ∨
  ∃ x, a = some x ∧ len ≤ cap ∧ cap ≤ maxLen ∧ zs.length = cap ∧ (∀ i, i < zs.length → w.cell? (x.add i) = some (.int k (zs.getD i 0))) ∧ ∀ n ∈ zs, (Lit.int k n).wf = true
theorem add_at (b o j : Nat) : (⟨b, o, none⟩ : Addr).add j = ⟨b, o + j, none⟩ := by unfold Addr.add; split <;> simp_all
theorem wf_u8_bounds {n : Int} (h : (Lit.int .u8 n).wf = true) : 0 ≤ n ∧ n ≤ 255 := by
  simpa [Lit.wf, IntKind.min, IntKind.max, IntKind.signed, IntKind.bits] using h
/-- A row of bytes read by a new reader. -/
theorem rd_start (w : World) (a : Option Addr) (len len' cap : Nat) (zs : List Int) (h : IsRow .u8 w a len cap zs) (hl : len' ≤ len) (h2 : len' ≤ 2000) :
    RdAt (w.alloc (.cells #[.slice a len' cap, .int .i64 0] 75)) w.heap.size 0 := by
  refine ⟨a, len', cap, by rw [heap_alloc_last]; rfl, h2, ?_⟩
  rcases h with ⟨rfl, rfl, rfl, rfl⟩ | ⟨x, rfl, hlc, hm, hz, hcell, hwz⟩
  · left; omega
  · by_cases h0 : len' = 0
    · exact .inl h0
    · right
      obtain ⟨b, off, spot⟩ := x
      have hc := hcell 0 (by omega)
      have hspot : spot = none := by simpa [Addr.add] using World.cell?_spot hc
      subst hspot
      have hb : b < w.heap.size := by
        rcases Nat.lt_or_ge b w.heap.size with hlt | hge
        · exact hlt
        · unfold World.cell? at hc
          rw [show ((⟨b, off, none⟩ : Addr).add 0).block = b from rfl, Array.getElem?_eq_none hge] at hc
          simp at hc
      refine ⟨b, off, rfl, hb, fun i hi => ⟨zs.getD i 0, ?_, ?_⟩⟩
      · have := hcell i (by omega)
        rw [add_at] at this
        rw [← this]
        exact ((Below.refl w.heap.size w).alloc (Nat.le_refl _) _).cell (p := ⟨b, off + i, none⟩) hb
      · apply wf_u8_bounds
        apply hwz
        rw [List.getD_eq_getElem?_getD, List.getElem?_eq_getElem (by omega)]
        simp
set_option maxHeartbeats 400000 in
theorem open_any (w : World) (a : Option Addr) (len cap : Nat) (zs : List Int) (h : IsRow .u8 w a len cap zs) :
    Calls Tryz.prog 17 #[.slice a len cap] w fun e w' => e = .returned (.pointer (some ⟨w.heap.size, 0, none⟩)) ∧ RdAt w' w.heap.size 0 ∧ Below w.heap.size w w' := by
  have HI : Hid (IsRow .u8 w a len cap zs) := h
  by_cases hl : (2000 : Int) < (len : Int)
  · rcases h with ⟨rfl, rfl, rfl, rfl⟩ | ⟨x, rfl, hlc, hm, hz, hcell, hwz⟩
    · simp at hl
    · have hcap : ¬ (cap : Int) < 2000 := by omega
      have hcap2 : 2000 ≤ cap := by omega
      have HS : Hid _ := rd_start w (some x) len 2000 cap zs HI.out (by omega) (Nat.le_refl _)
      clear hcell hwz
      go_enter Tryz.func17, Tryz.ntmps17
      go_wp2
      go_ret
      exact ⟨rfl, HS, (Below.refl _ _).alloc (Nat.le_refl _) _⟩
  · have HS : Hid _ := rd_start w a len len cap zs HI.out (Nat.le_refl _) (by omega)
    clear h
    go_enter Tryz.func17, Tryz.ntmps17
    go_wp2
    go_ret
    exact ⟨rfl, HS, (Below.refl _ _).alloc (Nat.le_refl _) _⟩
/-- A drawn word: what it may be. -/
def Drawn (s : ByteArray) : Prop := s.size ≤ 20
theorem size_append (a b : ByteArray) : (a ++ b).size = a.size + b.size := by simp
/-- Texts of at most so many bytes. -/
def shortV (m : Nat) : Value → Bool
  | .string s => decide (s.size ≤ m)
  | _ => false
theorem lit_texts (m : Nat) (w : World) (cs : Array Value) (t : TypeId) (h : cs.all (shortV m) = true) : ∀ i, i < cs.size → ∃ s : ByteArray, (w.alloc (.cells cs t)).cell? ⟨w.heap.size, i, none⟩ = some (.string s) ∧ s.size ≤ m := by
  intro i hi
  rw [cell_of_row _ _ i cs t (0, 0) (heap_alloc_last w _), Array.getElem?_eq_getElem hi]
  have := (Array.all_eq_true.1 h) i hi
  revert this
  generalize cs[i] = v
  intro hv
  unfold shortV at hv
  split at hv
  · next s => exact ⟨s, rfl, by simpa using hv⟩
  · cases hv
set_option maxHeartbeats 1000000 in
theorem l13Word_any (w : World) (blk p : Nat) (h : RdAt w blk p) (hp : p ≤ 900000) :
    Calls Tryz.prog 22 #[.pointer (some ⟨blk, 0, none⟩)] w fun e w' => ∃ s, e = .returned (.string s) ∧ Drawn s ∧ (∃ q, RdAt w' blk q ∧ q ≤ p + 10) ∧ Kept blk w w' := by
  go_enter Tryz.func22, Tryz.ntmps22
  go_wp2_with fail
  refine (pick_any w blk p 3 h (by omega) (by omega)).mono ?_
  rintro e w1 ⟨v, rfl, hv0, hv1, hr1, hk1⟩
  clear hv1
  have HR1 : Hid (RdAt w1 blk (p + 1)) := hr1
  clear hr1
  cases hv : (v == 0) with
  | true =>
    go_wp2_with fail
    refine (pick_any w1 blk (p + 1) 5 HR1.out (by omega) (by omega)).mono ?_
    rintro e w2 ⟨v2, rfl, hv20, hv21, hr2, hk2⟩
    have hv22 : v2 ≤ 4 := by have := hv21 (by omega); omega
    have HR2 : Hid (RdAt w2 blk (p + 2)) := hr2
    clear hr2 hv21
    go_wp2_with fail
    go_loopw [3, 4] (fun o c wr => ∃ (s : ByteArray) (i q : Nat), o = .string s ∧ c = .int .i64 i ∧ i ≤ 5 ∧ s.size + 2 * i ≤ 10 ∧ RdAt wr blk q ∧ q + i ≤ p + 7 ∧ Kept blk w wr) (fun _ c _ => (intOf c).toNat)
    case atStart =>
      obtain ⟨m, rfl⟩ := Int.eq_ofNat_of_zero_le hv20
      exact ⟨⟨#[]⟩, 1 + m, p + 2, rfl, by go_num, by omega, by simp [ByteArray.size]; omega, HR2.out, by omega, hk1.trans hk2⟩
    case round =>
      obtain ⟨s, i, q, rfl, rfl, hi, hs, hrq, hq, hkq⟩ := hrel
      have HRQ : Hid (RdAt wr blk q) := hrq
      clear hrq
      by_cases h0 : (0 : Int) < (i : Int)
      · go_wp2_with fail
        refine (of_any (fun s => s.size ≤ 2) _ blk q _ 5 5 (by exact HRQ.out.alloc _) (by omega) (by omega) (by omega) (by intro i hi; refine lit_texts 2 _ _ _ ?_ i hi; decide +kernel) (by have := HRQ.out.lt; omega)).mono ?_
        rintro e w3 ⟨s3, rfl, hs3, hr3, hk3⟩
        have HR3 : Hid (RdAt w3 blk (q + 1)) := hr3
        have HSZ : Hid ((s ++ s3).size = s.size + s3.size) := size_append s s3
        clear hr3
        go_wp2
        go_roundw
        case rel => exact ⟨_, i - 1, q + 1, rfl, by go_num, by omega, by have := HSZ.out; omega, HR3.out, by omega, (hkq.alloc _).trans hk3⟩
        case measure => simp [intOf]; omega
      · go_wp2_with fail
        refine (least_any _ _ _).mono ?_
        rintro e w3 ⟨rfl, rfl⟩
        have hl : ls (s.size : Int) 12 = (s.size : Int) := by have := ls_le (s.size : Int) 12; omega
        rw [hl]
        clear hl
        go_wp2
        go_ret
        exact ⟨_, rfl, by unfold Drawn; first | omega | (simp; omega), ⟨q, HRQ.out, by omega⟩, hkq⟩
  | false =>
    go_wp2_with fail
    refine (of_any (fun s => s.size ≤ 20) _ blk (p + 1) _ 15 15 (by exact HR1.out.alloc _) (by omega) (by omega) (by omega) (by intro i hi; refine lit_texts 20 _ _ _ ?_ i hi; decide +kernel) (by have := HR1.out.lt; omega)).mono ?_
    rintro e w3 ⟨s3, rfl, hs3, hr3, hk3⟩
    have HR3 : Hid (RdAt w3 blk (p + 1 + 1)) := hr3
    clear hr3
    go_wp2
    go_ret
    exact ⟨s3, rfl, hs3, ⟨_, HR3.out, by omega⟩, (hk1.alloc _).trans hk3⟩
set_option maxHeartbeats 1000000 in
theorem l13AnyWord_any (w : World) (blk p : Nat) (h : RdAt w blk p) (hp : p ≤ 800000) :
    Calls Tryz.prog 45 #[.pointer (some ⟨blk, 0, none⟩)] w fun e w' => ∃ s, e = .returned (.string s) ∧ Drawn s ∧ (∃ q, RdAt w' blk q ∧ q ≤ p + 11) ∧ Kept blk w w' := by
  go_enter Tryz.func45, Tryz.ntmps45
  go_wp2_with fail
  refine (pick_any w blk p 16 h (by omega) (by omega)).mono ?_
  rintro e w1 ⟨v, rfl, hv0, hv1, hr1, hk1⟩
  have HR1 : Hid (RdAt w1 blk (p + 1)) := hr1
  clear hv1 hr1
  cases hv : (v == 0) with
  | true =>
    go_wp2_with fail
    refine (of_any (fun s => s.size ≤ 20) _ blk (p + 1) _ 6 6 (by exact HR1.out.alloc _) (by omega) (by omega) (by omega) (by intro i hi; refine lit_texts 20 _ _ _ ?_ i hi; decide +kernel) (by have := HR1.out.lt; omega)).mono ?_
    rintro e w3 ⟨s3, rfl, hs3, hr3, hk3⟩
    have HR3 : Hid (RdAt w3 blk (p + 1 + 1)) := hr3
    clear hr3
    go_wp2
    go_ret
    exact ⟨s3, rfl, hs3, ⟨_, HR3.out, by omega⟩, (hk1.alloc _).trans hk3⟩
  | false =>
    go_wp2_with fail
    refine (l13Word_any _ blk (p + 1) HR1.out (by omega)).mono ?_
    rintro e w3 ⟨s3, rfl, hs3, ⟨q, hr3, hq⟩, hk3⟩
    have HR3 : Hid (RdAt w3 blk q) := hr3
    clear hr3
    go_wp2
    go_ret
    exact ⟨s3, rfl, hs3, ⟨q, HR3.out, by omega⟩, hk1.trans hk3⟩
theorem wok_letter (s : ByteArray) (i : Nat) (hi : i < s.size) (h : wok s = true) : wok (s.extract i (i + 1)) = true := by
  unfold wok at h ⊢
  simp only [Bool.and_eq_true, decide_eq_true_eq] at h ⊢
  have hsz : (s.extract i (i + 1)).size = 1 := by simp; omega
  refine ⟨by omega, ?_, by omega⟩
  have e : (s.extract i (i + 1)).data.toList = (s.data.toList.drop i).take 1 := by
    simp
  rw [e]
  have ha := h.2.1
  unfold inr at ha ⊢
  rw [List.all_eq_true] at ha ⊢
  intro c hc
  exact ha c (List.mem_of_mem_drop (List.mem_of_mem_take hc))
theorem wok_empty : wok ⟨#[]⟩ = false := by decide
end Go.Proofs.YthedglgljehmgaaGreatDoor
