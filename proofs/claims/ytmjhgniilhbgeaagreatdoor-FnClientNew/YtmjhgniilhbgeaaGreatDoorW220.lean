/-
  A client that begins is ok.
-/
import Derived.Test.YtmjhgniilhbgeaaGreatDoorW12
import Derived.Test.YtmjhgniilhbgeaaGreatDoorW161
namespace Go.Proofs.YtmjhgniilhbgeaaGreatDoor
open Go.RowKit
set_option linter.unusedVariables false
set_option maxHeartbeats 1000000 in
theorem l1Many_any (s : ByteArray) (n : Nat) (w : World) (hs : s.size ≤ 1000) (hn : s.size * n ≤ 1000) (hn2 : n ≤ 100000) :
    Calls Tryz.prog 12 #[.string s, .int .i64 n] w fun e w' => ∃ t : ByteArray, e = .returned (.string t) ∧ t.size ≤ s.size * n ∧ w' = w := by
  have HN : Hid (s.size * n ≤ 1000) := hn
  clear hn
  go_enter Tryz.func12, Tryz.ntmps12
  go_wp2
  go_loopw [0, 1, 5] (fun sv nv ov wr => ∃ (u o : ByteArray) (m : Nat), sv = .string u ∧ nv = .int .i64 m ∧ ov = .string o ∧ m ≤ 100000 ∧ u.size ≤ 2000 ∧ o.size + u.size * m ≤ s.size * n ∧ wr = w) (fun _ nv _ _ => (intOf nv).toNat)
  case atStart => exact ⟨s, ⟨#[]⟩, n, rfl, rfl, rfl, hn2, by omega, by show 0 + _ ≤ _; omega, rfl⟩
  case round =>
    obtain ⟨u, o, m, rfl, rfl, rfl, hm9, hu, ho, hw⟩ := hrel
    subst hw
    have HO : Hid (o.size + u.size * m ≤ s.size * n) := ho
    have ho2 : o.size ≤ 1000 := by have := HN.out; have := Nat.zero_le (u.size * m); omega
    clear ho
    by_cases hm : 0 < m
    · have hm1 : (0 : Int) < (m : Int) := by omega
      have hu2 : u.size ≤ 1000 := by
        have h1 := HO.out
        have h2 := HN.out
        have h3 : u.size * 1 ≤ u.size * m := Nat.mul_le_mul_left _ hm
        omega
      obtain ⟨q, hq⟩ : ∃ q : Nat, q = m / 2 := ⟨_, rfl⟩
      have hq9 : q ≤ 100000 := by omega
      have hqm : q < m := by omega
      have d1 : (m : Int).tdiv 2 = (q : Int) := by rw [hq]; rfl
      have d2 : (m : Int) / 2 = (q : Int) := by rw [hq]; rfl
      by_cases hodd : m % 2 = 1
      · have r1 : (m : Int).tmod 2 = 1 := by have : (m : Int).tmod 2 = ((m % 2 : Nat) : Int) := rfl; rw [this, hodd]; rfl
        have r2 : (m : Int) % 2 = 1 := by omega
        have HE : Hid (o.size + u.size + (u.size + u.size) * q ≤ s.size * n) := by
          show _ ≤ _
          have h1 := HO.out
          have h2 : m = 2 * q + 1 := by omega
          rw [h2, Nat.mul_add, Nat.mul_one, ← Nat.mul_assoc, Nat.mul_comm u.size 2, Nat.mul_assoc] at h1
          rw [← Nat.two_mul, Nat.mul_assoc]
          omega
        clear hq
        go_wp2
        go_roundw
        case rel => exact ⟨u ++ u, o ++ u, q, rfl, by go_num, rfl, hq9, by rw [ByteArray.size_append]; omega, by rw [ByteArray.size_append, ByteArray.size_append]; exact HE.out, by first | rfl | trivial⟩
        case measure => simp [intOf]; omega
      · have r1 : (m : Int).tmod 2 = 0 := by have : (m : Int).tmod 2 = ((m % 2 : Nat) : Int) := rfl; rw [this, show m % 2 = 0 by omega]; rfl
        have r2 : (m : Int) % 2 = 0 := by omega
        have HE : Hid (o.size + (u.size + u.size) * q ≤ s.size * n) := by
          show _ ≤ _
          have h1 := HO.out
          have h2 : m = 2 * q := by omega
          rw [h2, ← Nat.mul_assoc, Nat.mul_comm u.size 2, Nat.mul_assoc] at h1
          rw [← Nat.two_mul, Nat.mul_assoc]
          omega
        clear hq
        go_wp2
        go_roundw
        case rel => exact ⟨u ++ u, o, q, rfl, by go_num, rfl, hq9, by rw [ByteArray.size_append]; omega, by rw [ByteArray.size_append]; exact HE.out, by first | rfl | trivial⟩
        case measure => simp [intOf]; omega
    · have hm0 : m = 0 := by omega
      subst hm0
      go_wp2
      go_ret
      exact ⟨o, rfl, by have := HO.out; omega, rfl⟩
set_option maxHeartbeats 1000000 in
theorem drawClientNew_any (w : World) (a : Option Addr) (len cap : Nat) (zs : List Int) (h : IsRow .u8 w a len cap zs) :
    Calls Tryz.prog 4 #[.slice a len cap] w fun e w' => ∃ s : ByteArray, e = .returned (.string s) ∧ s.size ≤ 65 ∧ Below w.heap.size w w' := by
  have HI : Hid (IsRow .u8 w a len cap zs) := h
  clear h
  go_enter Tryz.func4, Tryz.ntmps4
  go_wp2_with fail
  refine (open_any w a len cap zs HI.out).mono ?_
  rintro e w1 ⟨rfl, hr1, hb1⟩
  have HR1 : Hid (RdAt w1 w.heap.size 0) := hr1
  have HB1 : Hid (Below w.heap.size w w1) := hb1
  clear hr1 hb1
  go_wp2_with fail
  refine (l1Many_any ⟨#[107]⟩ 65 w1 (by decide) (by decide) (by decide)).mono ?_
  rintro e w2 ⟨t, rfl, ht, he⟩
  rw [he]
  clear he
  have ht2 : t.size ≤ 65 := by have : (ByteArray.mk #[107]).size * 65 = 65 := rfl; omega
  have HL : Hid (∀ i, i < 4 → ∃ s : ByteArray, (w1.alloc (.cells #[.string ⟨#[107, 101, 121]⟩, .string ⟨#[]⟩, .string ⟨#[107]⟩, .string t] 9)).cell? ⟨w1.heap.size, i, none⟩ = some (.string s) ∧ s.size ≤ 65) := by
    intro i hi
    have hb := heap_alloc_last w1 (.cells #[.string ⟨#[107, 101, 121]⟩, .string ⟨#[]⟩, .string ⟨#[107]⟩, .string t] 9)
    match i, hi with
    | 0, _ => exact ⟨_, by rw [cell_of_row _ _ 0 _ _ _ hb]; rfl, by decide⟩
    | 1, _ => exact ⟨_, by rw [cell_of_row _ _ 1 _ _ _ hb]; rfl, by decide⟩
    | 2, _ => exact ⟨_, by rw [cell_of_row _ _ 2 _ _ _ hb]; rfl, by decide⟩
    | 3, _ => exact ⟨t, by rw [cell_of_row _ _ 3 _ _ _ hb]; rfl, ht2⟩
  go_wp2_with fail
  refine (of_any (fun s => s.size ≤ 65) _ w.heap.size 0 w1.heap.size 4 4 (HR1.out.alloc _) (by omega) (by omega) (by omega) HL.out (by have := HR1.out.lt; omega)).mono ?_
  rintro e w3 ⟨s, rfl, hs, -, hk3⟩
  have HB3 : Hid (Below w.heap.size w w3) := (Kept.trans ((Kept.refl w.heap.size w1).alloc _) hk3).below HB1.out (Nat.le_refl _)
  clear hk3
  go_wp2
  go_ret
  exact ⟨s, rfl, hs, HB3.out⟩
end Go.Proofs.YtmjhgniilhbgeaaGreatDoor
