/-
  Figures of sums; numbers in decimals.
-/
import Derived.Test.YtcnnjbiambccdaaGreatDoorProg
import Derived.Test.YtcnnjbiambccdaaGreatDoorShelf
import Derived.Test.YtcnnjbiambccdaaGreatDoorGW2
import Derived.Test.YtcnnjbiambccdaaGreatDoorGW92
import Derived.Deep.RegionWith
import Derived.Laws.BitsLemmas
import Derived.Lib.ItoaMem
import Derived.Lib.ItoaLen
namespace Go.Proofs.YtcnnjbiambccdaaGreatDoor
open Go.RowKit
set_option linter.unusedVariables false
/-- A figure of sixteen. -/
def figB (c : Int) : Bool := (decide (48 ≤ c) && decide (c ≤ 57)) || (decide (97 ≤ c) && decide (c ≤ 102))
def figsL (l : List UInt8) : Bool := l.all fun c => figB (c.toNat : Int)
def sumT (s : ByteArray) : Bool := decide (s.size = 64) && figsL s.data.toList
theorem figs_take_succ (s : ByteArray) (k : Nat) (h : k < s.size) : figsL (s.data.toList.take (k + 1)) = (figsL (s.data.toList.take k) && figB (s[k].toNat : Int)) := by
  have e : s.data.toList.take (k + 1) = s.data.toList.take k ++ [s[k]] := by
    rw [List.take_succ_eq_append_getElem (by simpa using h)]; rfl
  rw [e]; simp [figsL, List.all_append]
theorem figs_all (s : ByteArray) (k : Nat) (h : s.size ≤ k) : figsL (s.data.toList.take k) = figsL s.data.toList := by
  rw [List.take_of_length_le (by simpa using h)]
theorem figs_bad (s : ByteArray) (k : Nat) (h : k < s.size) (hb : figB (s[k].toNat : Int) = false) : figsL s.data.toList = false := by
  have hm : s[k] ∈ s.data.toList := by
    have : s[k] = s.data[k] := rfl
    rw [this]; simp
  unfold figsL
  rw [List.all_eq_false]
  exact ⟨s[k], hm, by rw [hb]; decide⟩
/-- Where a byte stands among the figures. -/
def figures : List UInt8 := [48, 49, 50, 51, 52, 53, 54, 55, 56, 57, 97, 98, 99, 100, 101, 102]
theorem figures_at : ∀ n : Fin 256, decide (Lib.indexByte figures n.val.toUInt8 < 0) = !figB (n.val : Int) := by decide +kernel
theorem figures_index (c : UInt8) : decide (Lib.indexByte figures c < 0) = !figB (c.toNat : Int) := by
  have h := figures_at ⟨c.toNat, c.toNat_lt⟩
  have e : c.toNat.toUInt8 = c := by simp
  simp only [e] at h
  exact h
theorem figB_not {c : UInt8} (h : figB (c.toNat : Int) = false) : Lib.indexByte figures c < 0 := by
  have := figures_index c
  rw [h] at this
  simpa using this
theorem figB_is {c : UInt8} (h : figB (c.toNat : Int) = true) : ¬ Lib.indexByte figures c < 0 := by
  have := figures_index c
  rw [h] at this
  simpa using this
theorem index_any (c : UInt8) (b : Bool) (hb : figB (c.toNat : Int) = b) (w : World) : Calls Tryz.prog 49 #[.string ⟨#[48, 49, 50, 51, 52, 53, 54, 55, 56, 57, 97, 98, 99, 100, 101, 102]⟩, .int .u8 (c.toNat : Int)] w fun e w' => ∃ i : Int, e = .returned (.int .i64 i) ∧ (decide (i < 0) = !b) ∧ w' = w := by
  refine (Tryz.strings_IndexByte _ _ _).mono ?_
  rintro e w1 ⟨rfl, rfl⟩
  refine ⟨_, rfl, ?_, rfl⟩
  have e1 : ((c.toNat : Int).toNat.toUInt8) = c := by simp
  rw [e1, ← hb]
  exact figures_index c
set_option maxHeartbeats 1000000 in
theorem sumOk_any (s : ByteArray) (w : World) (hs : s.size ≤ maxLen) : Calls Tryz.prog 29 #[.string s] w fun e w' => e = .returned (.bool (sumT s)) ∧ w' = w := by
  unfold maxLen at hs
  by_cases h64 : s.size = 64
  · have h64' : (s.size : Int) = 64 := by omega
    have HS : Hid (sumT s = figsL s.data.toList) := by show sumT s = _; simp [sumT, h64]
    go_enter Tryz.func29, Tryz.ntmps29
    go_wp2
    go_loop [9] (fun i => ∃ k : Nat, k ≤ 64 ∧ i = .int .i64 k ∧ figsL (s.data.toList.take k) = true) (fun i => 64 - (intOf i).toNat)
    case atStart => exact ⟨0, Nat.zero_le _, rfl, rfl⟩
    case round =>
      obtain ⟨k, hk, rfl, hr⟩ := hrel
      have HR : Hid (figsL (s.data.toList.take k) = true) := hr
      clear hr
      by_cases hlt : k < 64
      · have hlt' : (k : Int) < 64 := by omega
        have hks : k < s.size := by omega
        have hi : 0 ≤ (k : Int) ∧ (k : Int) < s.size := by omega
        cases hf : figB (s[k].toNat : Int) with
        | false =>
          have HB : Hid (figsL s.data.toList = false) := figs_bad s k hks hf
          go_wp2_with fail
          refine (index_any _ _ hf _).mono ?_
          rintro e w1 ⟨i, rfl, hin, rfl⟩
          have hin' : i < 0 := by simpa using hin
          clear hin
          go_wp2
          go_ret
          exact ⟨ret_bool (by rw [HS.out, HB.out]), rfl⟩
        | true =>
          have HN : Hid (figsL (s.data.toList.take (k + 1)) = true) := by show figsL _ = true; rw [figs_take_succ s k hks, HR.out, hf]; rfl
          go_wp2_with fail
          refine (index_any _ _ hf _).mono ?_
          rintro e w1 ⟨i, rfl, hin, rfl⟩
          have hin' : ¬ i < 0 := by simpa using hin
          clear hin
          go_wp2
          go_round
          case rel => exact ⟨k + 1, by omega, by go_num, HN.out⟩
          case measure => simp [intOf]; omega
      · have hlt' : ¬ (k : Int) < 64 := by omega
        go_wp2
        go_ret
        exact ⟨ret_bool (by rw [HS.out, ← figs_all s k (by omega), HR.out]), rfl⟩
  · have h64' : ¬ (s.size : Int) = 64 := by omega
    have HS : Hid (sumT s = false) := by show sumT s = _; simp [sumT, h64]
    go_enter Tryz.func29, Tryz.ntmps29
    go_wp2
    go_ret
    exact ⟨ret_bool (by rw [HS.out]), rfl⟩
set_option maxHeartbeats 1000000 in
theorem l6Figure_any (c : Int) (w : World) (h0 : 0 ≤ c) (h1 : c ≤ 255) : Calls Tryz.prog 22 #[.int .u8 c] w fun e w' => e = .returned (.bool (figB c)) ∧ w' = w := by
  by_cases a1 : 48 ≤ c <;> by_cases a2 : c ≤ 57 <;> by_cases a3 : 97 ≤ c <;> by_cases a4 : c ≤ 102
  all_goals
    first
    | (exfalso; omega)
    | (go_enter Tryz.func22, Tryz.ntmps22
       go_wp2
       go_ret
       exact ⟨ret_bool (by simp [figB, a1, a2, a3, a4]), rfl⟩)
theorem below_any {w wx w' : World} (h : Below wx.heap.size wx w') (hx : Below w.heap.size w wx) : Below w.heap.size w w' := hx.trans (h.mono hx.size)
theorem below_A {w w' : World} (h : Below w.drew.heap.size w.drew w') : Below w.heap.size w w' := below_any h (Below.refl _ _).drew
theorem below_B {w w' : World} {o : Obj} (h : Below (w.alloc o).drew.heap.size (w.alloc o).drew w') : Below w.heap.size w w' := below_any h ((Below.refl _ _).alloc (Nat.le_refl _) _).drew
theorem cell_keepN {w w' : World} {v : Value} {t : TypeId} (h : Below (w.alloc (.cells #[v] t)).drew.heap.size (w.alloc (.cells #[v] t)).drew w') : w'.cell? ⟨w.heap.size, 0, none⟩ = some v := by
  refine (h.cell (p := ⟨w.heap.size, 0, none⟩) ?_).trans ?_
  · show w.heap.size < (w.alloc (.cells #[v] t)).heap.size
    simp
  · show (w.alloc (.cells #[v] t)).cell? _ = _
    simp [go_sem]
theorem dec_small {n : Nat} (h : n < 10) : Lib.itoa (n : Int) = [UInt8.ofNat (48 + n)] := by rw [Lib.itoa_nonneg, Lib.decDigits_one h]
theorem dec_great {n : Nat} (h : ¬ n < 10) : Lib.itoa (n : Int) = Lib.itoa ((n / 10 : Nat) : Int) ++ [UInt8.ofNat (48 + n % 10)] := by
  rw [Lib.itoa_nonneg, Lib.itoa_nonneg, Lib.decDigits, dif_neg h]
set_option maxRecDepth 100000 in
set_option maxHeartbeats 2000000 in
theorem l1Dec_any : ∀ (n : Nat) (w : World), n ≤ 999999 → Calls Tryz.prog 23 #[.int .i64 (n : Int)] w fun e w' => e = .returned (.string ⟨(Lib.itoa (n : Int)).toArray⟩) ∧ Below w.heap.size w w' := by
  intro n
  induction n using Nat.strongRecOn with
  | ind n ih =>
    intro w hn
    have HIH : Hid (∀ m, m < n → ∀ (w : World), m ≤ 999999 → Calls Tryz.prog 23 #[.int .i64 (m : Int)] w fun e w' => e = .returned (.string ⟨(Lib.itoa (m : Int)).toArray⟩) ∧ Below w.heap.size w w') := ih
    clear ih
    have n0 : ¬ (n : Int) < -9223372036854775807 := by omega
    have n1 : ¬ (n : Int) < 0 := by omega
    by_cases h10 : n < 10
    · have n2 : (n : Int) < 10 := by omega
      have HD : Hid (Lib.itoa (n : Int) = [UInt8.ofNat (48 + n)]) := dec_small h10
      go_enter Tryz.func23, Tryz.ntmps23
      have hc := conv_dig n
      go_wp2
      go_ret
      exact ⟨by rw [HD.out, UInt8.ofNat_add]; rfl, (Below.refl _ _).alloc (Nat.le_refl _) _⟩
    · have n2 : ¬ (n : Int) < 10 := by omega
      have HD : Hid (Lib.itoa (n : Int) = Lib.itoa ((n / 10 : Nat) : Int) ++ [UInt8.ofNat (48 + n % 10)]) := dec_great h10
      have hz : (⟨(Lib.itoa ((n / 10 : Nat) : Int)).toArray⟩ : ByteArray).size ≤ 21 := by
        rw [size_toArr]
        exact Lib.itoa_length_le _ (by omega) (by omega)
      obtain ⟨T, hT⟩ : ∃ T, (⟨(Lib.itoa ((n / 10 : Nat) : Int)).toArray⟩ : ByteArray) = T := ⟨_, rfl⟩
      have HT : Hid ((⟨(Lib.itoa ((n / 10 : Nat) : Int)).toArray⟩ : ByteArray) = T) := hT
      have hwr : IntKind.i64.wrap ((n : Int) / 10) = ((n / 10 : Nat) : Int) := by rw [IntKind.wrap_i64]; omega
      have HC : Hid (∀ w : World, Calls Tryz.prog 23 #[.int .i64 (IntKind.i64.wrap ((n : Int) / 10))] w fun e w' => e = .returned (.string T) ∧ Below w.heap.size w w') := by
        intro w
        have h := HIH.out (n / 10) (by omega) w (by omega)
        rw [hT, ← hwr] at h
        exact h
      rw [hT] at hz
      obtain ⟨Dg, hDg⟩ : ∃ D : ByteArray, (⟨#[UInt8.ofNat (48 + n % 10)]⟩ : ByteArray) = D := ⟨_, rfl⟩
      have hd1 : Dg.size = 1 := by rw [← hDg]; rfl
      have HF : Hid (T ++ Dg = ⟨(Lib.itoa (n : Int)).toArray⟩) := by
        show T ++ _ = _
        rw [← hT, HD.out, ← hDg]
        apply ByteArray.ext
        simp
      have hx : IntKind.u8.wrap (IntKind.i64.wrap (48 + (n : Int).tmod 10)) = 48 + ((n % 10 : Nat) : Int) := by
        have h1 : (n : Int).tmod 10 = ((n % 10 : Nat) : Int) := by rw [Int.tmod_eq_emod_of_nonneg (by omega)]; omega
        have h2 : n % 10 < 10 := Nat.mod_lt _ (by decide)
        rw [h1, IntKind.wrap_i64, IntKind.wrap_u8]
        omega
      have hc : ∀ (b : Nat) (wx : World), wx.cell? ⟨b, 0, none⟩ = some (.int .u8 (IntKind.u8.wrap (IntKind.i64.wrap (48 + (n : Int).tmod 10)))) → (convert 70 9 (.slice (some ⟨b, 0, none⟩) 1 1)).run Tryz.prog wx = .ok (.string Dg) wx := fun b wx h => by rw [← hDg]; exact conv_dig (n % 10) b _ hx wx h
      clear hT HIH hwr hDg hx
      go_enter Tryz.func23, Tryz.ntmps23
      go_wp2_with fail
      go_region_with (go_at_call 23; refine (HC.out _).mono ?_; rintro e w2 ⟨rfl, hb2⟩; (first | have k0 := cell_keepN hb2 | skip); (first | have HB2 : Hid (Below w.heap.size w w2) := below_A hb2 | have HB2 : Hid (Below w.heap.size w w2) := below_B hb2); clear hb2)
      all_goals
        go_wp2
        go_ret
        refine ⟨by rw [← HF.out]; rfl, ?_⟩
        first | exact HB2.out | exact HB2.out.alloc HB2.out.size _
end Go.Proofs.YtcnnjbiambccdaaGreatDoor
