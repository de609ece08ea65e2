/-
  Marks: markText.
-/
import Derived.Test.YtfpkphkgnolkkaaW90
namespace Go.Proofs.Ytfpkphkgnolkkaa
open Go.RowKit
set_option linter.unusedVariables false
theorem conv_dig (d b : Nat) (x : Int) (hx : x = 48 + (d : Int)) (wx : World) (h : wx.cell? ⟨b, 0, none⟩ = some (.int .u8 x)) :
    (convert 57 9 (.slice (some ⟨b, 0, none⟩) 1 1)).run Try.prog wx = .ok (.string ⟨#[UInt8.ofNat (48 + d)]⟩) wx := by
  subst hx
  have h1 := run_convert_bytes_arg (P := Try.prog) wx 57 5 Try.underlying57 Try.underlying5 b 0 1 1 [48 + (d : Int)] rfl (fun i hi => by
    have : i = 0 := by omega
    subst this
    exact h) 9 Try.underlying9
  rw [h1]
  have e : (48 + (d : Int)).toNat = 48 + d := by omega
  simp [strOfNums, e]
theorem digT_zero (f : Nat) (acc : List UInt8) : digT f 0 acc = acc := by cases f <;> simp [digT]
theorem digT_succ {f n : Nat} {acc : List UInt8} (h : 0 < n) : digT (f + 1) n acc = digT f (n / 10) (UInt8.ofNat (48 + n % 10) :: acc) := if_neg (by omega)
theorem app_one (c : UInt8) (acc : List UInt8) : (⟨#[c]⟩ : ByteArray) ++ ⟨acc.toArray⟩ = ⟨(c :: acc).toArray⟩ := by
  apply ByteArray.ext
  simp
theorem size_toArr (acc : List UInt8) : (⟨acc.toArray⟩ : ByteArray).size = acc.length := by simp [ByteArray.size]
theorem digT_length : ∀ (f n : Nat) (acc : List UInt8), (digT f n acc).length ≤ acc.length + f
  | 0, _, acc => by simp [digT]
  | f + 1, n, acc => by
    unfold digT
    split
    · omega
    · have := digT_length f (n / 10) (UInt8.ofNat (48 + n % 10) :: acc)
      rw [List.length_cons] at this
      omega
set_option maxHeartbeats 2000000 in
theorem markText_any (N : Nat) (hN : N < 9000000000000000000) (w : World) :
    Calls Try.prog 27 #[.int .i64 N] w fun e w' => e = .returned (.string (markT N)) ∧ Below w.heap.size w w' := by
  by_cases h0 : N = 0
  · subst h0
    go_enter Try.func27, Try.ntmps27
    go_wp2
    go_ret
    exact ⟨rfl, Below.refl _ _⟩
  · have HM : Hid (markT N = ⟨(109 :: digT 20 N []).toArray⟩) := if_neg h0
    have hp : 0 < N := by omega
    go_enter Try.func27, Try.ntmps27
    go_wp2
    go_loopw [0, 3] (fun kv o wr => ∃ (j n : Nat) (acc : List UInt8), kv = .int .i64 n ∧ o = .string ⟨acc.toArray⟩ ∧ n < 10 ^ j ∧ n < 9000000000000000000 ∧ acc.length + j ≤ 19 ∧ digT 20 N [] = digT (j + 1) n acc ∧ Below w.heap.size w wr) (fun kv _ _ => (intOf kv).toNat)
    case atStart => exact ⟨19, N, [], rfl, rfl, by omega, hN, by simp, rfl, Below.refl _ _⟩
    case round =>
      obtain ⟨j, n, acc, rfl, rfl, hj, hn, hl, hd, hb⟩ := hrel
      have HB : Hid (Below w.heap.size w wr) := hb
      have HD : Hid (digT 20 N [] = digT (j + 1) n acc) := hd
      have HJ : Hid (n < 10 ^ j) := hj
      clear hb hd hj
      have hz : (⟨acc.toArray⟩ : ByteArray).size ≤ 19 := by rw [size_toArr]; omega
      by_cases hlt : 0 < n
      · have hc := conv_dig (n % 10)
        go_wp2
        go_roundw
        case rel =>
          have hj := HJ.out
          cases j with
          | zero => simp at hj; omega
          | succ j =>
            have hd := HD.out
            rw [digT_succ hlt] at hd
            refine ⟨j, n / 10, UInt8.ofNat (48 + n % 10) :: acc, by rw [Int.natCast_ediv]; rfl, ?_, by rw [Nat.pow_succ] at hj; omega, by omega, by rw [List.length_cons]; omega, hd, HB.out.alloc HB.out.size _⟩
            rw [← app_one, UInt8.ofNat_add]
            rfl
        case measure => simp [intOf]; omega
      · have hn0 : n = 0 := by omega
        subst hn0
        go_wp2
        go_ret
        refine ⟨?_, HB.out⟩
        rw [HM.out, HD.out, digT_zero, ← app_one]
        rfl
