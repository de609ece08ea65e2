/-
  Worlds that begin: books and clients with nothing, held, marked, compared.
-/
import Derived.Test.YtfpkphkgnolkkaaW161
import Derived.Test.YtfpkphkgnolkkaaW129
namespace Go.Proofs.Ytfpkphkgnolkkaa
open Go.RowKit
set_option linter.unusedVariables false
theorem markAffixS_nil (x : Int) (w : World) : Calls Try.prog 25 #[.slice none 0 0, .int .i64 x] w fun e w' => e = .returned (.int .i64 x) ∧ w' = w := by
  go_enter Try.func25, Try.ntmps25
  go_wp2
  go_loopw [1, 5] (fun kv i wr => kv = .int .i64 x ∧ i = .int .i64 0 ∧ wr = w) (fun _ i _ => 0)
  case atStart => exact ⟨rfl, rfl, rfl⟩
  case round =>
    obtain ⟨rfl, rfl, rfl⟩ := hrel
    go_wp2
    go_ret
    exact ⟨rfl, rfl⟩
theorem markEntryS_nil (x : Int) (w : World) : Calls Try.prog 26 #[.slice none 0 0, .int .i64 x] w fun e w' => e = .returned (.int .i64 x) ∧ w' = w := by
  go_enter Try.func26, Try.ntmps26
  go_wp2
  go_loopw [1, 5] (fun kv i wr => kv = .int .i64 x ∧ i = .int .i64 0 ∧ wr = w) (fun _ i _ => 0)
  case atStart => exact ⟨rfl, rfl, rfl⟩
  case round =>
    obtain ⟨rfl, rfl, rfl⟩ := hrel
    go_wp2
    go_ret
    exact ⟨rfl, rfl⟩
theorem markStringS_nil (x : Int) (w : World) : Calls Try.prog 18 #[.slice none 0 0, .int .i64 x] w fun e w' => e = .returned (.int .i64 x) ∧ w' = w := by
  go_enter Try.func18, Try.ntmps18
  go_wp2
  go_loopw [1, 5] (fun kv i wr => kv = .int .i64 x ∧ i = .int .i64 0 ∧ wr = w) (fun _ i _ => 0)
  case atStart => exact ⟨rfl, rfl, rfl⟩
  case round =>
    obtain ⟨rfl, rfl, rfl⟩ := hrel
    go_wp2
    go_ret
    exact ⟨rfl, rfl⟩
theorem heldAffixS_nil (x : Int) (w : World) : Calls Try.prog 28 #[.slice none 0 0, .int .i64 x] w fun e w' => e = .returned (.int .i64 x) ∧ w' = w := by
  go_enter Try.func28, Try.ntmps28
  go_wp2
  go_loopw [1, 5] (fun kv i wr => kv = .int .i64 x ∧ i = .int .i64 0 ∧ wr = w) (fun _ i _ => 0)
  case atStart => exact ⟨rfl, rfl, rfl⟩
  case round =>
    obtain ⟨rfl, rfl, rfl⟩ := hrel
    go_wp2
    go_ret
    exact ⟨rfl, rfl⟩
theorem heldEntryS_nil (x : Int) (w : World) : Calls Try.prog 29 #[.slice none 0 0, .int .i64 x] w fun e w' => e = .returned (.int .i64 x) ∧ w' = w := by
  go_enter Try.func29, Try.ntmps29
  go_wp2
  go_loopw [1, 5] (fun kv i wr => kv = .int .i64 x ∧ i = .int .i64 0 ∧ wr = w) (fun _ i _ => 0)
  case atStart => exact ⟨rfl, rfl, rfl⟩
  case round =>
    obtain ⟨rfl, rfl, rfl⟩ := hrel
    go_wp2
    go_ret
    exact ⟨rfl, rfl⟩
theorem heldStringS_nil (x : Int) (w : World) : Calls Try.prog 21 #[.slice none 0 0, .int .i64 x] w fun e w' => e = .returned (.int .i64 x) ∧ w' = w := by
  go_enter Try.func21, Try.ntmps21
  go_wp2
  go_loopw [1, 5] (fun kv i wr => kv = .int .i64 x ∧ i = .int .i64 0 ∧ wr = w) (fun _ i _ => 0)
  case atStart => exact ⟨rfl, rfl, rfl⟩
  case round =>
    obtain ⟨rfl, rfl, rfl⟩ := hrel
    go_wp2
    go_ret
    exact ⟨rfl, rfl⟩
/-- No book, or one that is empty. -/
def BkAt (w : World) (v : Value) (n : Nat) : Prop := (n = 0 ∧ v = .slice none 0 0) ∨ (n = 1 ∧ ∃ B, v = .slice (some ⟨B, 0, none⟩) 1 1 ∧ w.heap[B]? = some (.cells #[.slice none 0 0, .slice none 0 0] 34 (0, 0)))
theorem BkAt.below {w w' : World} {v : Value} {n : Nat} (h : BkAt w v n) (hb : Below w.heap.size w w') : BkAt w' v n := by
  rcases h with h | ⟨hn, B, hv, hB⟩
  · exact .inl h
  · exact .inr ⟨hn, B, hv, (hb.block B (lt_of_block hB)).trans hB⟩
theorem nilBookAt (w : World) : BookAt w (.agg #[.slice none 0 0, .slice none 0 0]) ([], []) := ⟨_, _, rfl, (nilBook w).1, (nilBook w).2⟩
set_option maxHeartbeats 1000000 in
theorem eqBookS_new (w : World) (v u : Value) (n : Nat) (h : BkAt w v n) (h' : BkAt w u n) :
    Calls Try.prog 14 #[v, u] w fun e w' => e = .returned (.bool true) ∧ Below w.heap.size w w' := by
  rcases h with ⟨rfl, rfl⟩ | ⟨rfl, B, rfl, hB⟩
  · rcases h' with ⟨_, rfl⟩ | ⟨h0, _⟩
    · go_enter Try.func14, Try.ntmps14
      go_wp2
      go_loopw [5] (fun i wr => i = .int .i64 0 ∧ wr = w) (fun i _ => 0)
      case atStart => exact ⟨rfl, rfl⟩
      case round =>
        obtain ⟨rfl, rfl⟩ := hrel
        go_wp2
        go_ret
        exact ⟨rfl, Below.refl _ _⟩
    · cases h0
  · rcases h' with ⟨h0, _⟩ | ⟨_, C, rfl, hC⟩
    · cases h0
    · have HB : Hid (w.heap[B]? = some (.cells #[.slice none 0 0, .slice none 0 0] 34 (0, 0))) := hB
      have HC : Hid (w.heap[C]? = some (.cells #[.slice none 0 0, .slice none 0 0] 34 (0, 0))) := hC
      clear hB hC
      go_enter Try.func14, Try.ntmps14
      go_wp2
      go_loopw [5] (fun i wr => ∃ k : Nat, k ≤ 1 ∧ i = .int .i64 k ∧ Below w.heap.size w wr) (fun i _ => 1 - (intOf i).toNat)
      case atStart => exact ⟨0, Nat.zero_le _, rfl, Below.refl _ _⟩
      case round =>
        obtain ⟨k, hk, rfl, hb⟩ := hrel
        have HR : Hid (Below w.heap.size w wr) := hb
        have hbB := (hb.block B (lt_of_block HB.out)).trans HB.out
        have hbC := (hb.block C (lt_of_block HC.out)).trans HC.out
        by_cases hlt : k < 1
        · have hk0 : k = 0 := by omega
          subst hk0
          have HY : Hid (∀ w', Below wr.heap.size wr w' → w'.cell? ⟨B, 0, none⟩ = some (.slice none 0 0) ∧ w'.cell? ⟨B, 1, none⟩ = some (.slice none 0 0) ∧ w'.cell? ⟨C, 0, none⟩ = some (.slice none 0 0) ∧ w'.cell? ⟨C, 1, none⟩ = some (.slice none 0 0)) := fun w' h => by
            have e1 := (h.block B (lt_of_block hbB)).trans hbB
            have e2 := (h.block C (lt_of_block hbC)).trans hbC
            exact ⟨by rw [cell_of_row _ _ 0 _ _ _ e1]; rfl, by rw [cell_of_row _ _ 1 _ _ _ e1]; rfl, by rw [cell_of_row _ _ 0 _ _ _ e2]; rfl, by rw [cell_of_row _ _ 1 _ _ _ e2]; rfl⟩
          obtain ⟨c0, c1, c2, c3⟩ := HY.out wr (Below.refl _ _)
          clear hb hbB hbC
          go_wp2_with fail
          go_region_held3 (fun w' => w'.cell? ⟨B, 0, none⟩ = some (.slice none 0 0) ∧ w'.cell? ⟨B, 1, none⟩ = some (.slice none 0 0) ∧ w'.cell? ⟨C, 0, none⟩ = some (.slice none 0 0) ∧ w'.cell? ⟨C, 1, none⟩ = some (.slice none 0 0)) (go_keep)
            ((go_at_call 23; refine (eqBook_u _ _ _ ([], []) (nilBookAt _) (nilBookAt _)).mono ?_; rintro e w1 ⟨rfl, hb1⟩; have H1 : Hid (Below wr.heap.size wr w1) := (Below.drew (Below.refl wr.heap.size wr)).trans hb1; clear hb1 c0 c1 c2 c3; obtain ⟨c0, c1, c2, c3⟩ := HY.out w1 H1.out))
          go_wp2
          go_roundw
          case rel => exact ⟨0 + 1, by omega, by go_num, HR.out.trans (H1.out.mono HR.out.size)⟩
          case measure => simp [intOf]
        · have hk1 : k = 1 := by omega
          subst hk1
          clear hb hbB hbC
          go_wp2
          go_ret
          exact ⟨rfl, HR.out⟩
set_option maxHeartbeats 1000000 in
theorem markBookS_new (w : World) (v : Value) (n k : Nat) (h : BkAt w v n) :
    Calls Try.prog 17 #[v, .int .i64 k] w fun e w' => e = .returned (.int .i64 k) ∧ w' = w := by
  have hk0 : ¬ ((k : Int) < 0) := by omega
  rcases h with ⟨rfl, rfl⟩ | ⟨rfl, B, rfl, hB⟩
  · go_enter Try.func17, Try.ntmps17
    go_wp2
    go_loopw [1, 5] (fun kv i wr => kv = .int .i64 k ∧ i = .int .i64 0 ∧ wr = w) (fun _ i _ => 0)
    case atStart => exact ⟨rfl, rfl, rfl⟩
    case round =>
      obtain ⟨rfl, rfl, rfl⟩ := hrel
      go_wp2
      go_ret
      exact ⟨rfl, rfl⟩
  · have c0 : w.cell? ⟨B, 0, none⟩ = some (.slice none 0 0) := by rw [cell_of_row _ _ 0 _ _ _ hB]; rfl
    have c1 : w.cell? ⟨B, 1, none⟩ = some (.slice none 0 0) := by rw [cell_of_row _ _ 1 _ _ _ hB]; rfl
    clear hB
    go_enter Try.func17, Try.ntmps17
    go_wp2
    go_loopw [1, 5] (fun kv i wr => ∃ j : Nat, j ≤ 1 ∧ kv = .int .i64 k ∧ i = .int .i64 j ∧ wr = w) (fun _ i _ => 1 - (intOf i).toNat)
    case atStart => exact ⟨0, Nat.zero_le _, rfl, rfl, rfl⟩
    case round =>
      obtain ⟨j, hj, rfl, rfl, hw⟩ := hrel
      subst hw
      by_cases hlt : j < 1
      · have hk0 : j = 0 := by omega
        subst hk0
        go_wp2_with fail
        refine (markAffixS_nil _ _).mono ?_
        rintro e w1 ⟨rfl, he⟩
        rw [he]
        clear he
        go_wp2_with fail
        refine (markEntryS_nil _ _).mono ?_
        rintro e w2 ⟨rfl, he⟩
        rw [he]
        clear he
        go_wp2
        go_roundw
        case rel => exact ⟨0 + 1, by omega, rfl, by go_num, by first | rfl | trivial⟩
        case measure => simp [intOf]
      · have hk1 : j = 1 := by omega
        subst hk1
        go_wp2
        go_ret
        exact ⟨rfl, rfl⟩
set_option maxHeartbeats 1000000 in
theorem heldBookS_new (w : World) (v : Value) (n k : Nat) (h : BkAt w v n) :
    Calls Try.prog 20 #[v, .int .i64 k] w fun e w' => e = .returned (.int .i64 k) ∧ w' = w := by
  have hk0 : ¬ ((k : Int) < 0) := by omega
  rcases h with ⟨rfl, rfl⟩ | ⟨rfl, B, rfl, hB⟩
  · go_enter Try.func20, Try.ntmps20
    go_wp2
    go_loopw [1, 5] (fun kv i wr => kv = .int .i64 k ∧ i = .int .i64 0 ∧ wr = w) (fun _ i _ => 0)
    case atStart => exact ⟨rfl, rfl, rfl⟩
    case round =>
      obtain ⟨rfl, rfl, rfl⟩ := hrel
      go_wp2
      go_ret
      exact ⟨rfl, rfl⟩
  · have c0 : w.cell? ⟨B, 0, none⟩ = some (.slice none 0 0) := by rw [cell_of_row _ _ 0 _ _ _ hB]; rfl
    have c1 : w.cell? ⟨B, 1, none⟩ = some (.slice none 0 0) := by rw [cell_of_row _ _ 1 _ _ _ hB]; rfl
    clear hB
    go_enter Try.func20, Try.ntmps20
    go_wp2
    go_loopw [1, 5] (fun kv i wr => ∃ j : Nat, j ≤ 1 ∧ kv = .int .i64 k ∧ i = .int .i64 j ∧ wr = w) (fun _ i _ => 1 - (intOf i).toNat)
    case atStart => exact ⟨0, Nat.zero_le _, rfl, rfl, rfl⟩
    case round =>
      obtain ⟨j, hj, rfl, rfl, hw⟩ := hrel
      subst hw
      by_cases hlt : j < 1
      · have hk0 : j = 0 := by omega
        subst hk0
        go_wp2_with fail
        refine (heldAffixS_nil _ _).mono ?_
        rintro e w1 ⟨rfl, he⟩
        rw [he]
        clear he
        go_wp2_with fail
        refine (heldEntryS_nil _ _).mono ?_
        rintro e w2 ⟨rfl, he⟩
        rw [he]
        clear he
        go_wp2
        go_roundw
        case rel => exact ⟨0 + 1, by omega, rfl, by go_num, by first | rfl | trivial⟩
        case measure => simp [intOf]
      · have hk1 : j = 1 := by omega
        subst hk1
        go_wp2
        go_ret
        exact ⟨rfl, rfl⟩
end Go.Proofs.Ytfpkphkgnolkkaa
