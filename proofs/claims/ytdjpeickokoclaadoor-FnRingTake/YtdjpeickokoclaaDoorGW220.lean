/-
  Drawn words: a reader over a code; what l13Word and l13AnyWord draw; the law FnWordOk.
-/
import Derived.Test.YtdjpeickokoclaaDoorGW2
import Derived.Test.YtdjpeickokoclaaDoorW8
import Derived.Test.YtdjpeickokoclaaDoorW11
namespace Go.Proofs.YtdjpeickokoclaaDoor
open Go.RowKit
set_option linter.unusedVariables false
/-- What the walk is told of a slice of integers that came in. -/
def IsRow (k : IntKind) (w : World) (a : Option Addr) (len cap : Nat) (zs : List Int) : Prop :=
  (a = none ∧ len = 0 ∧ cap = 0 ∧ zs = []) ∨
  ∃ x, a = some x ∧ len ≤ cap ∧ cap ≤ maxLen ∧ zs.length = cap ∧ (∀ i, i < zs.length → w.cell? (x.add i) = some (.int k (zs.getD i 0))) ∧ ∀ n ∈ zs, (Lit.int k n).wf = true
theorem add_at (b o j : Nat) : (⟨b, o, none⟩ : Addr).add j = ⟨b, o + j, none⟩ := by unfold Addr.add; split <;> simp_all
theorem wf_u8_bounds {n : Int} (h : (Lit.int .u8 n).wf = true) : 0 ≤ n ∧ n ≤ 255 := by
  simpa [Lit.wf, IntKind.min, IntKind.max, IntKind.signed, IntKind.bits] using h
/-- A row of bytes read by a new reader. -/
theorem rd_start (w : World) (a : Option Addr) (len len' cap : Nat) (zs : List Int) (h : IsRow .u8 w a len cap zs) (hl : len' ≤ len) (h2 : len' ≤ 2000) :
    RdAt (w.alloc (.cells #[.slice a len' cap, .int .i64 0] 67)) w.heap.size 0 := by
  refine ⟨a, len', cap, by rw [heap_alloc_last]; rfl, h2, ?_⟩
  rcases h with ⟨rfl, rfl, rfl, rfl⟩ | ⟨x, rfl, hlc, hm, hz, hcell, hwz⟩
  · left; omega
  · by_cases h0 : len' = 0
    · exact .inl h0
    · right
      obtain ⟨b, off, spot⟩ := x
      have hc := hcell 0 (by omega)
      have hspot : spot = none := by simpa [Addr.add] using World.cell?_spot hc
      subst hspot
      have hb : b < w.heap.size := by
        rcases Nat.lt_or_ge b w.heap.size with hlt | hge
        · exact hlt
        · unfold World.cell? at hc
          rw [show ((⟨b, off, none⟩ : Addr).add 0).block = b from rfl, Array.getElem?_eq_none hge] at hc
          simp at hc
      refine ⟨b, off, rfl, hb, fun i hi => ⟨zs.getD i 0, ?_, ?_⟩⟩
      · have := hcell i (by omega)
        rw [add_at] at this
        rw [← this]
        exact ((Below.refl w.heap.size w).alloc (Nat.le_refl _) _).cell (p := ⟨b, off + i, none⟩) hb
      · apply wf_u8_bounds
        apply hwz
        rw [List.getD_eq_getElem?_getD, List.getElem?_eq_getElem (by omega)]
        simp
set_option maxHeartbeats 400000 in
theorem open_any (w : World) (a : Option Addr) (len cap : Nat) (zs : List Int) (h : IsRow .u8 w a len cap zs) :
    Calls Tryd.prog 17 #[.slice a len cap] w fun e w' => e = .returned (.pointer (some ⟨w.heap.size, 0, none⟩)) ∧ RdAt w' w.heap.size 0 ∧ Below w.heap.size w w' := by
  have HI : Hid (IsRow .u8 w a len cap zs) := h
  by_cases hl : (2000 : Int) < (len : Int)
  · rcases h with ⟨rfl, rfl, rfl, rfl⟩ | ⟨x, rfl, hlc, hm, hz, hcell, hwz⟩
    · simp at hl
    · have hcap : ¬ (cap : Int) < 2000 := by omega
      have hcap2 : 2000 ≤ cap := by omega
      have HS : Hid _ := rd_start w (some x) len 2000 cap zs HI.out (by omega) (Nat.le_refl _)
      clear hcell hwz
      go_enter Tryd.func17, Tryd.ntmps17
      go_wp2
      go_ret
      exact ⟨rfl, HS, (Below.refl _ _).alloc (Nat.le_refl _) _⟩
  · have HS : Hid _ := rd_start w a len len cap zs HI.out (Nat.le_refl _) (by omega)
    clear h
    go_enter Tryd.func17, Tryd.ntmps17
    go_wp2
    go_ret
    exact ⟨rfl, HS, (Below.refl _ _).alloc (Nat.le_refl _) _⟩
/-- A drawn word: what it may be. -/
def Drawn (s : ByteArray) : Prop := s.size ≤ 20
theorem size_append (a b : ByteArray) : (a ++ b).size = a.size + b.size := by simp
end Go.Proofs.YtdjpeickokoclaaDoor
/-
  A client that begins is ok.
-/
namespace Go.Proofs.YtdjpeickokoclaaDoor
open Go.RowKit
set_option linter.unusedVariables false
end Go.Proofs.YtdjpeickokoclaaDoor
