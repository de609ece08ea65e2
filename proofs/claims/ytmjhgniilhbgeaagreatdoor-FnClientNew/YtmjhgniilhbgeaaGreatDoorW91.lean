/-
  Marks: markText.
-/
import Derived.Test.YtmjhgniilhbgeaaGreatDoorW90
namespace Go.Proofs.YtmjhgniilhbgeaaGreatDoor
open Go.RowKit
set_option linter.unusedVariables false
theorem conv_dig (d b : Nat) (x : Int) (hx : x = 48 + (d : Int)) (wx : World) (h : wx.cell? ⟨b, 0, none⟩ = some (.int .u8 x)) :
    (convert 22 9 (.slice (some ⟨b, 0, none⟩) 1 1)).run Tryz.prog wx = .ok (.string ⟨#[UInt8.ofNat (48 + d)]⟩) wx := by
  subst hx
  have h1 := run_convert_bytes_arg (P := Tryz.prog) wx 22 5 Tryz.underlying22 Tryz.underlying5 b 0 1 1 [48 + (d : Int)] rfl (fun i hi => by
    have : i = 0 := by omega
    subst this
    exact h) 9 Tryz.underlying9
  rw [h1]
  have e : (48 + (d : Int)).toNat = 48 + d := by omega
  simp [strOfNums, e]
theorem digT_zero (f : Nat) (acc : List UInt8) : digT f 0 acc = acc := by cases f <;> simp [digT]
theorem digT_succ {f n : Nat} {acc : List UInt8} (h : 0 < n) : digT (f + 1) n acc = digT f (n / 10) (UInt8.ofNat (48 + n % 10) :: acc) := if_neg (by omega)
theorem app_one (c : UInt8) (acc : List UInt8) : (⟨#[c]⟩ : ByteArray) ++ ⟨acc.toArray⟩ = ⟨(c :: acc).toArray⟩ := by
  apply ByteArray.ext
  simp
theorem size_toArr (acc : List UInt8) : (⟨acc.toArray⟩ : ByteArray).size = acc.length := by simp [ByteArray.size]
theorem digT_length : ∀ (f n : Nat) (acc : List UInt8), (digT f n acc).length ≤ acc.length + f
  | 0, _, acc => by simp [digT]
  | f + 1, n, acc => by
    unfold digT
    split
    · omega
    · have := digT_length f (n / 10) (UInt8.ofNat (48 + n % 10) :: acc)
      rw [List.length_cons] at this
      omega
