/-
  Numbers in decimals: l1Dec.
-/
import Derived.Test.YtdjpeickokoclaaDoorProg
import Derived.Test.YtdjpeickokoclaaDoorGW2
import Derived.Test.YtdjpeickokoclaaDoorGW92
import Derived.Deep.RegionWith
import Derived.Laws.BitsLemmas
import Derived.Lib.ItoaMem
import Derived.Lib.ItoaLen
namespace Go.Proofs.YtdjpeickokoclaaDoor
open Go.RowKit
set_option linter.unusedVariables false
theorem below_any {w wx w' : World} (h : Below wx.heap.size wx w') (hx : Below w.heap.size w wx) : Below w.heap.size w w' := hx.trans (h.mono hx.size)
theorem below_A {w w' : World} (h : Below w.drew.heap.size w.drew w') : Below w.heap.size w w' := below_any h (Below.refl _ _).drew
theorem below_B {w w' : World} {o : Obj} (h : Below (w.alloc o).drew.heap.size (w.alloc o).drew w') : Below w.heap.size w w' := below_any h ((Below.refl _ _).alloc (Nat.le_refl _) _).drew
theorem cell_keepN {w w' : World} {v : Value} {t : TypeId} (h : Below (w.alloc (.cells #[v] t)).drew.heap.size (w.alloc (.cells #[v] t)).drew w') : w'.cell? ⟨w.heap.size, 0, none⟩ = some v := by
  refine (h.cell (p := ⟨w.heap.size, 0, none⟩) ?_).trans ?_
  · show w.heap.size < (w.alloc (.cells #[v] t)).heap.size
    simp
  · show (w.alloc (.cells #[v] t)).cell? _ = _
    simp [go_sem]
theorem dec_small {n : Nat} (h : n < 10) : Lib.itoa (n : Int) = [UInt8.ofNat (48 + n)] := by rw [Lib.itoa_nonneg, Lib.decDigits_one h]
theorem dec_great {n : Nat} (h : ¬ n < 10) : Lib.itoa (n : Int) = Lib.itoa ((n / 10 : Nat) : Int) ++ [UInt8.ofNat (48 + n % 10)] := by
  rw [Lib.itoa_nonneg, Lib.itoa_nonneg, Lib.decDigits, dif_neg h]
set_option maxRecDepth 100000 in
set_option maxHeartbeats 2000000 in
theorem l1Dec_any : ∀ (n : Nat) (w : World), n ≤ 999999 → Calls Tryd.prog 51 #[.int .i64 (n : Int)] w fun e w' => e = .returned (.string ⟨(Lib.itoa (n : Int)).toArray⟩) ∧ Below w.heap.size w w' := by
  intro n
  induction n using Nat.strongRecOn with
  | ind n ih =>
    intro w hn
    have HIH : Hid (∀ m, m < n → ∀ (w : World), m ≤ 999999 → Calls Tryd.prog 51 #[.int .i64 (m : Int)] w fun e w' => e = .returned (.string ⟨(Lib.itoa (m : Int)).toArray⟩) ∧ Below w.heap.size w w') := ih
    clear ih
    have n0 : ¬ (n : Int) < -9223372036854775807 := by omega
    have n1 : ¬ (n : Int) < 0 := by omega
    by_cases h10 : n < 10
    · have n2 : (n : Int) < 10 := by omega
      have HD : Hid (Lib.itoa (n : Int) = [UInt8.ofNat (48 + n)]) := dec_small h10
      go_enter Tryd.func51, Tryd.ntmps51
      have hc := conv_dig n
      go_wp2
      go_ret
      exact ⟨by rw [HD.out, UInt8.ofNat_add]; rfl, (Below.refl _ _).alloc (Nat.le_refl _) _⟩
    · have n2 : ¬ (n : Int) < 10 := by omega
      have HD : Hid (Lib.itoa (n : Int) = Lib.itoa ((n / 10 : Nat) : Int) ++ [UInt8.ofNat (48 + n % 10)]) := dec_great h10
      have hz : (⟨(Lib.itoa ((n / 10 : Nat) : Int)).toArray⟩ : ByteArray).size ≤ 21 := by
        rw [size_toArr]
        exact Lib.itoa_length_le _ (by omega) (by omega)
      obtain ⟨T, hT⟩ : ∃ T, (⟨(Lib.itoa ((n / 10 : Nat) : Int)).toArray⟩ : ByteArray) = T := ⟨_, rfl⟩
      have HT : Hid ((⟨(Lib.itoa ((n / 10 : Nat) : Int)).toArray⟩ : ByteArray) = T) := hT
      have hwr : IntKind.i64.wrap ((n : Int) / 10) = ((n / 10 : Nat) : Int) := by rw [IntKind.wrap_i64]; omega
      have HC : Hid (∀ w : World, Calls Tryd.prog 51 #[.int .i64 (IntKind.i64.wrap ((n : Int) / 10))] w fun e w' => e = .returned (.string T) ∧ Below w.heap.size w w') := by
        intro w
        have h := HIH.out (n / 10) (by omega) w (by omega)
        rw [hT, ← hwr] at h
        exact h
      rw [hT] at hz
      obtain ⟨Dg, hDg⟩ : ∃ D : ByteArray, (⟨#[UInt8.ofNat (48 + n % 10)]⟩ : ByteArray) = D := ⟨_, rfl⟩
      have hd1 : Dg.size = 1 := by rw [← hDg]; rfl
      have HF : Hid (T ++ Dg = ⟨(Lib.itoa (n : Int)).toArray⟩) := by
        show T ++ _ = _
        rw [← hT, HD.out, ← hDg]
        apply ByteArray.ext
        simp
      have hx : IntKind.u8.wrap (IntKind.i64.wrap (48 + (n : Int).tmod 10)) = 48 + ((n % 10 : Nat) : Int) := by
        have h1 : (n : Int).tmod 10 = ((n % 10 : Nat) : Int) := by rw [Int.tmod_eq_emod_of_nonneg (by omega)]; omega
        have h2 : n % 10 < 10 := Nat.mod_lt _ (by decide)
        rw [h1, IntKind.wrap_i64, IntKind.wrap_u8]
        omega
      have hc : ∀ (b : Nat) (wx : World), wx.cell? ⟨b, 0, none⟩ = some (.int .u8 (IntKind.u8.wrap (IntKind.i64.wrap (48 + (n : Int).tmod 10)))) → (convert 22 9 (.slice (some ⟨b, 0, none⟩) 1 1)).run Tryd.prog wx = .ok (.string Dg) wx := fun b wx h => by rw [← hDg]; exact conv_dig (n % 10) b _ hx wx h
      clear hT HIH hwr hDg hx
      go_enter Tryd.func51, Tryd.ntmps51
      go_wp2_with fail
      go_region_with (go_at_call 51; refine (HC.out _).mono ?_; rintro e w2 ⟨rfl, hb2⟩; (first | have k0 := cell_keepN hb2 | skip); (first | have HB2 : Hid (Below w.heap.size w w2) := below_A hb2 | have HB2 : Hid (Below w.heap.size w w2) := below_B hb2); clear hb2)
      all_goals
        go_wp2
        go_ret
        refine ⟨by rw [← HF.out]; rfl, ?_⟩
        first | exact HB2.out | exact HB2.out.alloc HB2.out.size _
end Go.Proofs.YtdjpeickokoclaaDoor
