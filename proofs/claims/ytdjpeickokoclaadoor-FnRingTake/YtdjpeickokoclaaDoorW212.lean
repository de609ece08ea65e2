/-
  The bytes of a word.
-/
import Derived.Test.YtdjpeickokoclaaDoorGM30
import Derived.Laws.BytesArg
namespace Go.Proofs.YtdjpeickokoclaaDoor
open Go.RowKit
set_option linter.unusedVariables false
theorem wn_shr8 (a : Wd) : wn a / (256 : Int) = wn (a >>> 8) := wn_shr a 8
theorem wn_shr16 (a : Wd) : wn a / (65536 : Int) = wn (a >>> 16) := wn_shr a 16
theorem wn_shr24 (a : Wd) : wn a / (16777216 : Int) = wn (a >>> 24) := wn_shr a 24
/-- A word's four bytes, the highest first, as numbers. -/
def nums4 (a : Wd) : List Int := [wn (a >>> 24) % 256, wn (a >>> 16) % 256, wn (a >>> 8) % 256, wn a % 256]
def wb (a : Wd) : ByteArray := strOfNums (nums4 a)
set_option maxHeartbeats 1000000 in
theorem wordBytes_any (a : Wd) (w : World) :
    Calls Tryd.prog 56 #[.int .u32 (wn a)] w fun e w' => e = .returned (.string (wb a)) ∧ Below w.heap.size w w' := by
  have h8 := wn_shr8
  have h16 := wn_shr16
  have h24 := wn_shr24
  have HU : Hid (wb a = strOfNums [wn (a >>> 24) % 256, wn (a >>> 16) % 256, wn (a >>> 8) % 256, wn a % 256]) := rfl
  obtain ⟨n3, e3⟩ : ∃ x, wn (a >>> 24) % 256 = x := ⟨_, rfl⟩
  obtain ⟨n2, e2⟩ : ∃ x, wn (a >>> 16) % 256 = x := ⟨_, rfl⟩
  obtain ⟨n1, e1⟩ : ∃ x, wn (a >>> 8) % 256 = x := ⟨_, rfl⟩
  obtain ⟨n0, e0⟩ : ∃ x, wn a % 256 = x := ⟨_, rfl⟩
  rw [e3, e2, e1, e0] at HU
  have hb := heap_alloc_last w (.cells #[.int .u8 n3, .int .u8 n2, .int .u8 n1, .int .u8 n0] 5)
  have hc := run_convert_bytes_arg (P := Tryd.prog) (w.alloc (.cells #[.int .u8 n3, .int .u8 n2, .int .u8 n1, .int .u8 n0] 5)) 22 5 Tryd.underlying22 Tryd.underlying5 w.heap.size 0 4 4 [n3, n2, n1, n0] rfl (fun i hi => by
    rw [cell_of_row _ _ _ _ _ _ hb]
    have : i = 0 ∨ i = 1 ∨ i = 2 ∨ i = 3 := by omega
    rcases this with rfl | rfl | rfl | rfl <;> rfl) 9 Tryd.underlying9
  rw [← HU.out] at hc
  clear hb
  go_enter Tryd.func56, Tryd.ntmps56
  go_wp2
  go_ret
  exact ⟨rfl, (Below.refl _ _).alloc (Nat.le_refl _) _⟩
end Go.Proofs.YtdjpeickokoclaaDoor
