/-
  strings.Join at five texts, with a blank between.
-/
import Derived.Test.YtdjpeickokoclaaDoorW80
import Derived.Test.YtdjpeickokoclaaDoorShelf
import Derived.Deep.OwnRows
namespace Go.Proofs.YtdjpeickokoclaaDoor
open Go.RowKit
set_option linter.unusedVariables false
/-- The bytes of a text. -/
def bl (s : ByteArray) : List UInt8 := s.data.toList
theorem byteCells_app (a b : List UInt8) : Lib.byteCells (a ++ b) = Lib.byteCells a ++ Lib.byteCells b := by simp [Lib.byteCells]
theorem bl_length (s : ByteArray) : (bl s).length = s.size := rfl
/-- The first texts, with a blank between. -/
def accJ (T : Nat → ByteArray) : Nat → List UInt8
  | 0 => bl (T 0)
  | k + 1 => accJ T k ++ (32 :: bl (T (k + 1)))
theorem builder_at8 {T e : TypeId} {B b : Nat} {p : Value} {bs : List Value} {w : World} (h : Lib.BuilderAt T e B b p bs w) (hp : p = .pointer (some ⟨b, 0, none⟩)) : Lib.IsBuilder T e B b bs w := by subst hp; exact .inr h
end Go.Proofs.YtdjpeickokoclaaDoor
/-
  strings.Join at three texts, with a blank between.
-/
namespace Go.Proofs.YtdjpeickokoclaaDoor
open Go.RowKit
set_option linter.unusedVariables false
theorem accJ3_length {T : Nat → ByteArray} (h : ∀ k, k < 3 → (T k).size ≤ 10000000) : ∀ k, k < 3 → (accJ T k).length ≤ 10000001 * (k + 1)
  | 0, h0 => by have := h 0 h0; simp only [accJ, bl_length]; omega
  | k + 1, hk => by
    have h1 := accJ3_length h k (by omega)
    have h2 := h (k + 1) hk
    simp only [accJ, List.length_append, List.length_cons, bl_length]
    omega
set_option maxRecDepth 100000 in
set_option maxHeartbeats 2000000 in
theorem join3_any (w : World) (g : Nat) (T : Nat → ByteArray) (hsz : ∀ k, k < 3 → (T k).size ≤ 10000000) (hg : g < w.heap.size) (hc : ∀ k, k < 3 → w.cell? ⟨g, k, none⟩ = some (.string (T k))) :
    Calls Tryd.prog 49 #[.slice (some ⟨g, 0, none⟩) 3 3, .string ⟨#[32]⟩] w fun e w' => e = .returned (.string ⟨(accJ T 2).toArray⟩) ∧ Below w.heap.size w w' := by
  have HSZ : Hid (∀ k, k < 3 → (T k).size ≤ 10000000) := hsz
  have HC : Hid (∀ k, k < 3 → w.cell? ⟨g, k, none⟩ = some (.string (T k))) := hc
  clear hsz hc
  have hs1 : (⟨#[32]⟩ : ByteArray).size = 1 := rfl
  go_enter Tryd.func49, Tryd.ntmps49
  go_wp2
  go_loop [5, 41] (fun nv i => ∃ k n : Nat, k ≤ 3 ∧ i = .int .i64 k ∧ nv = .int .i64 n ∧ n ≤ 2 + 10000000 * k) (fun _ i => 3 - (intOf i).toNat)
  case atStart => exact ⟨0, 2, by omega, rfl, rfl, by omega⟩
  case round =>
    obtain ⟨k, n, hk, rfl, rfl, hn⟩ := hrel
    by_cases hlt : k < 3
    · have c1 := HC.out k hlt
      have h1 := HSZ.out k hlt
      have hlt' : (k : Int) < 3 := by omega
      go_wp2
      go_round
      case rel => exact ⟨k + 1, n + (T k).size, by omega, by go_num, by go_num, by omega⟩
      case measure => simp [intOf]; omega
    · have hlt' : ¬ (k : Int) < 3 := by omega
      have c0 := HC.out 0 (by omega)
      go_wp2_with fail
      refine (Tryd.Builder_Grow_fresh w.heap.size w.heap.size n _ (Nat.le_refl _) (Go.Deep.blk_alloc_new _ _) (by simp) (by omega)).mono ?_
      rintro e w1 ⟨rfl, hbd1, hb1⟩
      have HBD1 : Hid (Lib.IsBuilder 82 5 w.heap.size w.heap.size [] w1) := builder_at8 hbd1 rfl
      have HB1 : Hid (Below w.heap.size w w1) := ((Below.refl _ _).alloc (Nat.le_refl _) _).trans hb1
      have c01 := (HB1.out.cell (p := ⟨g, 0, none⟩) hg).trans c0
      have hg1 : g < w1.heap.size := Nat.lt_of_lt_of_le hg HB1.out.size
      clear hbd1 hb1 c0
      go_wp2_with fail
      refine (writeString_any w.heap.size w.heap.size [] (T 0) _ HBD1.out (by simp) (by have := HSZ.out 0 (by omega); omega) (by have := HB1.out.size; omega)).mono ?_
      rintro e w2 ⟨⟨v2, rfl⟩, hbd2, hb2, _⟩
      have HB2 : Hid (Below w.heap.size w w2) := HB1.out.trans hb2
      have HBD2 : Hid (Lib.IsBuilder 82 5 w.heap.size w.heap.size (Lib.byteCells (accJ T 0)) w2) := hbd2
      clear hbd2 hb2 c01
      go_wp2
      go_loopw [65] (fun i wr => ∃ j : Nat, j ≤ 2 ∧ i = .int .i64 j ∧ Lib.IsBuilder 82 5 w.heap.size w.heap.size (Lib.byteCells (accJ T j)) wr ∧ Below w.heap.size w wr) (fun i _ => 2 - (intOf i).toNat)
      case atStart => exact ⟨0, by omega, rfl, HBD2.out, HB2.out⟩
      case round =>
        obtain ⟨j, hj, rfl, hbd, hb⟩ := hrel
        have HB : Hid (Below w.heap.size w wr) := hb
        have HBD : Hid (Lib.IsBuilder 82 5 w.heap.size w.heap.size (Lib.byteCells (accJ T j)) wr) := hbd
        clear hb hbd
        by_cases hjl : j < 2
        · have hjl' : (j : Int) < 2 := by omega
          have cj : wr.cell? ⟨g, 1 + j, none⟩ = some (.string (T (j + 1))) := (HB.out.cell (p := ⟨g, 1 + j, none⟩) hg).trans (by rw [Nat.add_comm]; exact HC.out (j + 1) (by omega))
          have hgr : g < wr.heap.size := Nat.lt_of_lt_of_le hg HB.out.size
          have hla := accJ3_length HSZ.out j (by omega)
          have HLA : Hid ((accJ T j).length ≤ 10000001 * (j + 1)) := hla
          clear hla
          go_wp2_with fail
          refine (writeString_any w.heap.size w.heap.size _ ⟨#[32]⟩ _ HBD.out (by rw [Lib.byteCells_length]; have := HLA.out; omega) (by rw [hs1]; omega) HB.out.size).mono ?_
          rintro e w3 ⟨⟨v3, rfl⟩, hbd3, hb3, _⟩
          have HB3 : Hid (Below w.heap.size w w3) := HB.out.trans hb3
          have HBD3 : Hid (Lib.IsBuilder 82 5 w.heap.size w.heap.size (Lib.byteCells (accJ T j ++ [32])) w3) := by rw [byteCells_app]; exact hbd3
          clear hbd3 hb3 cj
          go_wp2_with fail
          refine (writeString_any w.heap.size w.heap.size _ (T (j + 1)) _ HBD3.out (by rw [Lib.byteCells_length]; have := HLA.out; simp; omega) (by have := HSZ.out (j + 1) (by omega); omega) HB3.out.size).mono ?_
          rintro e w4 ⟨⟨v4, rfl⟩, hbd4, hb4, _⟩
          have HB4 : Hid (Below w.heap.size w w4) := HB3.out.trans hb4
          have HBD4 : Hid (Lib.IsBuilder 82 5 w.heap.size w.heap.size (Lib.byteCells (accJ T (j + 1))) w4) := by
            have e : accJ T (j + 1) = accJ T j ++ [32] ++ bl (T (j + 1)) := by simp [accJ]
            rw [e, byteCells_app]
            exact hbd4
          clear hbd4 hb4
          go_wp2
          go_roundw
          case rel => exact ⟨j + 1, by omega, by go_num, HBD4.out, HB4.out⟩
          case measure => simp [intOf]; omega
        · obtain rfl : j = 2 := by omega
          go_wp2_with fail
          refine (Tryd.Builder_String_any _ _ (accJ T 2) _ HBD.out HB.out.size).mono ?_
          rintro e w5 ⟨rfl, hb5⟩
          have HB5 : Hid (Below w.heap.size w w5) := HB.out.trans hb5
          clear hb5
          go_wp2
          go_ret
          exact ⟨rfl, HB5.out⟩
end Go.Proofs.YtdjpeickokoclaaDoor
