/-
  What spec.l1Step and spec.l1Near do: all words of one step, in order.
-/
import Derived.Test.YtcmajekdalcjeaaGreatGM6
import Derived.Test.YtcmajekdalcjeaaGreatW13
import Derived.Laws.BytesArg
import Derived.Deep.RegionWith
import Derived.Deep.DeepCutAuto
namespace Go.Proofs.YtcmajekdalcjeaaGreat
open Go.RowKit
set_option linter.unusedVariables false
theorem conv_one (j b : Nat) (wx : World) (h : wx.cell? ⟨b, 0, none⟩ = some (.int .u8 (97 + (j : Int)))) :
    (convert 22 9 (.slice (some ⟨b, 0, none⟩) 1 1)).run Tryz.prog wx = .ok (.string (chr (97 + j))) wx := by
  have h1 := run_convert_bytes_arg (P := Tryz.prog) wx 22 5 Tryz.underlying22 Tryz.underlying5 b 0 1 1 [97 + (j : Int)] rfl (fun i hi => by
    have : i = 0 := by omega
    subst this
    exact h) 9 Tryz.underlying9
  rw [h1]
  have e : (97 + (j : Int)).toNat = 97 + j := by omega
  simp [strOfNums, chr, e]
theorem chr_size (c : Nat) : (chr c).size = 1 := rfl
theorem ext_size (s : ByteArray) (a b : Nat) (h : b ≤ s.size) : (s.extract a b).size = b - a := by simp; omega
theorem size_ins (s : ByteArray) (i c : Nat) (h : s.size ≤ 12) : (insT s i c).size ≤ maxLen := by
  unfold insT maxLen
  rw [ByteArray.size_append, ByteArray.size_append, chr_size]; simp; omega
theorem size_chg (s : ByteArray) (i c : Nat) (h : s.size ≤ 12) : (chgT s i c).size ≤ maxLen := by
  unfold chgT maxLen
  rw [ByteArray.size_append, ByteArray.size_append, chr_size]; simp; omega
theorem size_del (s : ByteArray) (i : Nat) (h : s.size ≤ 12) : (delT s i).size ≤ maxLen := by
  unfold delT maxLen
  rw [ByteArray.size_append]; simp; omega
theorem size_swp (s : ByteArray) (i : Nat) (h : s.size ≤ 12) : (swpT s i).size ≤ maxLen := by
  unfold swpT maxLen
  rw [ByteArray.size_append, ByteArray.size_append, ByteArray.size_append]; simp; omega
end Go.Proofs.YtcmajekdalcjeaaGreat
