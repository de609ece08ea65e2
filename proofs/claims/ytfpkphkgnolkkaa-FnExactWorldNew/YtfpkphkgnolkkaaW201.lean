/-
  Clients that begin, compared, marked, held.
-/
import Derived.Test.YtfpkphkgnolkkaaW200
namespace Go.Proofs.Ytfpkphkgnolkkaa
open Go.RowKit
set_option linter.unusedVariables false
/-- What the cells of some clients hold. -/
def CliTo (F : Nat → Nat → Value) (n : Nat) (f : Nat → Value) : Prop := ∀ j i, j < n → i < 6 → f (j * 6 + i) = F j i
def newF (s : ByteArray) (_ i : Nat) : Value := match i with | 0 => .string s | 1 => .bool true | 2 => .int .i64 0 | 3 => .slice none 0 0 | 4 => .slice none 0 0 | _ => .string ⟨#[]⟩
def markF (k j i : Nat) : Value := match i with | 0 => .string (markT (k + j * 4)) | 1 => .bool (((k : Int) + j * 4 + 1) % 3 == 0) | 2 => .int .i64 ((k : Int) + j * 4 + 1 + 1) | 3 => .slice none 0 0 | 4 => .slice none 0 0 | _ => .string (markT (k + j * 4 + 3))
def CliOwn (lo hi : Nat) (w : World) (v : Value) (n : Nat) (F : Nat → Nat → Value) : Prop := RowOwn 38 6 lo hi w v n (CliTo F n)
theorem CliOwn.at {lo hi : Nat} {w : World} {v : Value} {n : Nat} {F : Nat → Nat → Value} (h : CliOwn lo hi w v n F) {j : Nat} (hj : j < n) : ∃ g cap, v = .slice (some ⟨g, 0, none⟩) n cap ∧ n ≤ cap ∧ g < w.heap.size ∧ w.cell? ⟨g, j * 6, none⟩ = some (F j 0) ∧ ∀ i, i < 6 → w.cell? ⟨g, j * 6 + i, none⟩ = some (F j i) := by
  obtain ⟨a, cap, rfl, h1, h2, hh⟩ := h
  obtain ⟨g, m, f, rfl, _, _, hle, hr, hc⟩ := hh (by omega)
  have key : ∀ i, i < 6 → w.cell? ⟨g, j * 6 + i, none⟩ = some (F j i) := fun i hi => by rw [hr.cell (by omega), hc j i hj hi]
  exact ⟨g, cap, rfl, h1, hr.lt, key 0 (by omega), key⟩
theorem newClientAt (w : World) (s : ByteArray) : ClientAt w (.agg #[.string s, .bool true, .int .i64 0, .slice none 0 0, .slice none 0 0, .string ⟨#[]⟩]) (s, true, 0, ([], []), ⟨#[]⟩) := ⟨_, _, rfl, (nilBook w).1, (nilBook w).2⟩
set_option maxHeartbeats 1000000 in
theorem eqClientS_new (s : ByteArray) (w : World) (v u : Value) (n lo hi lo' hi' : Nat) (h : CliOwn lo hi w v n (newF s)) (h' : CliOwn lo' hi' w u n (newF s)) (hn : n ≤ 3) :
    Calls Try.prog 16 #[v, u] w fun e w' => e = .returned (.bool true) ∧ Below w.heap.size w w' := by
  obtain ⟨a, cap, rfl, hc, hm⟩ := h.form
  obtain ⟨a', cap', rfl, hc', hm'⟩ := h'.form
  have HV : Hid (CliOwn lo hi w (.slice a n cap) n (newF s)) := h
  have HU : Hid (CliOwn lo' hi' w (.slice a' n cap') n (newF s)) := h'
  clear h h'
  unfold maxLen at hm hm'
  go_enter Try.func16, Try.ntmps16
  go_wp2
  go_loopw [5] (fun i wr => ∃ k : Nat, k ≤ n ∧ i = .int .i64 k ∧ Below w.heap.size w wr) (fun i _ => n - (intOf i).toNat)
  case atStart => exact ⟨0, Nat.zero_le _, rfl, Below.refl _ _⟩
  case round =>
    obtain ⟨k, hk, rfl, hb⟩ := hrel
    have HR : Hid (Below w.heap.size w wr) := hb
    clear hb
    by_cases hlt : k < n
    · have HY : Hid (∃ g g', a = some ⟨g, 0, none⟩ ∧ a' = some ⟨g', 0, none⟩ ∧ ∀ w', Below wr.heap.size wr w' → w'.cell? ⟨g, k * 6, none⟩ = some (.string s) ∧ w'.cell? ⟨g, k * 6 + 1, none⟩ = some (.bool true) ∧ w'.cell? ⟨g, k * 6 + 2, none⟩ = some (.int .i64 0) ∧ w'.cell? ⟨g, k * 6 + 3, none⟩ = some (.slice none 0 0) ∧ w'.cell? ⟨g, k * 6 + 4, none⟩ = some (.slice none 0 0) ∧ w'.cell? ⟨g, k * 6 + 5, none⟩ = some (.string ⟨#[]⟩) ∧ w'.cell? ⟨g', k * 6, none⟩ = some (.string s) ∧ w'.cell? ⟨g', k * 6 + 1, none⟩ = some (.bool true) ∧ w'.cell? ⟨g', k * 6 + 2, none⟩ = some (.int .i64 0) ∧ w'.cell? ⟨g', k * 6 + 3, none⟩ = some (.slice none 0 0) ∧ w'.cell? ⟨g', k * 6 + 4, none⟩ = some (.slice none 0 0) ∧ w'.cell? ⟨g', k * 6 + 5, none⟩ = some (.string ⟨#[]⟩)) := by
        obtain ⟨g, c1, hv, _, hg, _, hk1⟩ := CliOwn.at (RowOwn.below HV.out HR.out) hlt
        obtain ⟨g', c2, hv', _, hg', _, hk2⟩ := CliOwn.at (RowOwn.below HU.out HR.out) hlt
        cases hv
        cases hv'
        refine ⟨g, g', rfl, rfl, fun w' h => ?_⟩
        have e1 : ∀ i, i < 6 → w'.cell? ⟨g, k * 6 + i, none⟩ = some (newF s k i) := fun i hi => (h.cell (p := ⟨g, k * 6 + i, none⟩) hg).trans (hk1 i hi)
        have e2 : ∀ i, i < 6 → w'.cell? ⟨g', k * 6 + i, none⟩ = some (newF s k i) := fun i hi => (h.cell (p := ⟨g', k * 6 + i, none⟩) hg').trans (hk2 i hi)
        exact ⟨e1 0 (by omega), e1 1 (by omega), e1 2 (by omega), e1 3 (by omega), e1 4 (by omega), e1 5 (by omega), e2 0 (by omega), e2 1 (by omega), e2 2 (by omega), e2 3 (by omega), e2 4 (by omega), e2 5 (by omega)⟩
      obtain ⟨g, g', hga, hga', hy⟩ := HY.out
      subst hga
      subst hga'
      have HZ : Hid (∀ w', Below wr.heap.size wr w' → w'.cell? ⟨g, k * 6, none⟩ = some (.string s) ∧ w'.cell? ⟨g, k * 6 + 1, none⟩ = some (.bool true) ∧ w'.cell? ⟨g, k * 6 + 2, none⟩ = some (.int .i64 0) ∧ w'.cell? ⟨g, k * 6 + 3, none⟩ = some (.slice none 0 0) ∧ w'.cell? ⟨g, k * 6 + 4, none⟩ = some (.slice none 0 0) ∧ w'.cell? ⟨g, k * 6 + 5, none⟩ = some (.string ⟨#[]⟩) ∧ w'.cell? ⟨g', k * 6, none⟩ = some (.string s) ∧ w'.cell? ⟨g', k * 6 + 1, none⟩ = some (.bool true) ∧ w'.cell? ⟨g', k * 6 + 2, none⟩ = some (.int .i64 0) ∧ w'.cell? ⟨g', k * 6 + 3, none⟩ = some (.slice none 0 0) ∧ w'.cell? ⟨g', k * 6 + 4, none⟩ = some (.slice none 0 0) ∧ w'.cell? ⟨g', k * 6 + 5, none⟩ = some (.string ⟨#[]⟩)) := hy
      clear hy
      obtain ⟨c0, c1, c2, c3, c4, c5, d0, d1, d2, d3, d4, d5⟩ := HZ.out wr (Below.refl _ _)
      have i0 : (0 : Int) ≤ (k : Int) := by omega
      have i1 : (k : Int) < (n : Int) := by omega
      go_wp2_with fail
      go_region_held3 (fun w' => w'.cell? ⟨g, k * 6, none⟩ = some (.string s) ∧ w'.cell? ⟨g, k * 6 + 1, none⟩ = some (.bool true) ∧ w'.cell? ⟨g, k * 6 + 2, none⟩ = some (.int .i64 0) ∧ w'.cell? ⟨g, k * 6 + 3, none⟩ = some (.slice none 0 0) ∧ w'.cell? ⟨g, k * 6 + 4, none⟩ = some (.slice none 0 0) ∧ w'.cell? ⟨g, k * 6 + 5, none⟩ = some (.string ⟨#[]⟩) ∧ w'.cell? ⟨g', k * 6, none⟩ = some (.string s) ∧ w'.cell? ⟨g', k * 6 + 1, none⟩ = some (.bool true) ∧ w'.cell? ⟨g', k * 6 + 2, none⟩ = some (.int .i64 0) ∧ w'.cell? ⟨g', k * 6 + 3, none⟩ = some (.slice none 0 0) ∧ w'.cell? ⟨g', k * 6 + 4, none⟩ = some (.slice none 0 0) ∧ w'.cell? ⟨g', k * 6 + 5, none⟩ = some (.string ⟨#[]⟩)) (go_keep)
        ((go_at_call 24; refine (eqClient_u _ _ _ (s, true, 0, ([], []), ⟨#[]⟩) (newClientAt _ s) (newClientAt _ s)).mono ?_; rintro e w1 ⟨rfl, hb1⟩; have H1 : Hid (Below wr.heap.size wr w1) := (Below.drew (Below.refl wr.heap.size wr)).trans hb1; clear hb1 c0 c1 c2 c3 c4 c5 d0 d1 d2 d3 d4 d5; obtain ⟨c0, c1, c2, c3, c4, c5, d0, d1, d2, d3, d4, d5⟩ := HZ.out w1 H1.out))
      go_wp2
      go_roundw
      case rel => exact ⟨k + 1, by omega, by go_num, HR.out.trans (H1.out.mono HR.out.size)⟩
      case measure => simp [intOf]; omega
    · go_wp2
      go_ret
      exact ⟨rfl, HR.out⟩
theorem cliTo_next {k j : Nat} {f : Nat → Value} (h : CliTo (markF k) j f) (h3 : f (j * 6 + 3) = .slice none 0 0) (h4 : f (j * 6 + 4) = .slice none 0 0) : CliTo (markF k) (j + 1) (fun i => if i = j * 6 + 5 then .string (markT (k + j * 4 + 3)) else if i = j * 6 + 2 then .int .i64 ((k : Int) + j * 4 + 1 + 1) else if i = j * 6 + 1 then .bool (((k : Int) + j * 4 + 1) % 3 == 0) else if i = j * 6 then .string (markT (k + j * 4)) else f i) := by
  intro j' i hj hi
  by_cases e : j' = j
  · subst e
    have : i = 0 ∨ i = 1 ∨ i = 2 ∨ i = 3 ∨ i = 4 ∨ i = 5 := by omega
    rcases this with rfl | rfl | rfl | rfl | rfl | rfl <;> simp [markF, h3, h4]
  · have h1 : j' < j := by omega
    dsimp only
    rw [if_neg (by omega), if_neg (by omega), if_neg (by omega), if_neg (by omega)]
    exact h j' i h1 hi
set_option maxHeartbeats 2000000 in
theorem markClientS_new (s : ByteArray) (w : World) (v : Value) (n k lo hi : Nat) (h : CliOwn lo hi w v n (newF s)) (hn : n ≤ 3) (hk : k ≤ 1000000) (hlo : lo ≤ w.heap.size) :
    Calls Try.prog 19 #[v, .int .i64 k] w fun e w' => e = .returned (.int .i64 ((k + n * 4 : Nat) : Int)) ∧ CliOwn lo hi w' v n (markF k) ∧ Wr lo hi w w' ∧ w.grownBy w' (rowOf v n) := by
  obtain ⟨a, cap, rfl, hc, hm, hh⟩ := h
  have HC : Hid (cap ≤ maxLen) := hm
  unfold maxLen at hm
  by_cases h0 : n = 0
  · subst h0
    clear hh
    have HR : Hid (CliOwn lo hi w (.slice a 0 cap) 0 (markF k)) := ⟨a, cap, rfl, hc, HC.out, fun hh => absurd rfl hh⟩
    go_enter Try.func19, Try.ntmps19
    go_wp2
    go_loopw [1, 5] (fun kv i wr => kv = .int .i64 k ∧ i = .int .i64 0 ∧ wr = w) (fun _ i _ => 0)
    case atStart => exact ⟨rfl, rfl, rfl⟩
    case round =>
      obtain ⟨rfl, rfl, rfl⟩ := hrel
      go_wp2
      go_ret
      exact ⟨by simp, HR.out, Wr.refl _ _ _, grown_refl _ _⟩
  · obtain ⟨g, m, f0, rfl, hg, hgh, hle, hr, hf0⟩ := hh h0
    have HR : Hid (w.rowIs g 38 m f0) := hr
    have HF0 : Hid (CliTo (newF s) n f0) := hf0
    clear hr hh hf0
    go_enter Try.func19, Try.ntmps19
    go_wp2
    go_loopw [1, 5] (fun kv i wr => ∃ (j : Nat) (f : Nat → Value), j ≤ n ∧ kv = .int .i64 (k + j * 4) ∧ i = .int .i64 j ∧ wr.rowIs g 38 m f ∧ CliTo (markF k) j f ∧ (∀ i, j * 6 ≤ i → f i = f0 i) ∧ Wr lo hi w wr ∧ w.grownBy wr (some g)) (fun _ i _ => n - (intOf i).toNat)
    case atStart => exact ⟨0, f0, Nat.zero_le _, by simp, rfl, HR.out, fun j i hj => absurd hj (by omega), fun _ _ => rfl, Wr.refl _ _ _, grown_refl _ _⟩
    case round =>
      obtain ⟨j, f, hj, rfl, rfl, hr, ha, hrest, hw, hgr⟩ := hrel
      have HG : Hid (w.grownBy wr (some g)) := hgr
      clear hgr
      have HW : Hid (wr.rowIs g 38 m f) := hr
      have HA : Hid (CliTo (markF k) j f) := ha
      have HRS : Hid (∀ i, j * 6 ≤ i → f i = f0 i) := hrest
      have HR2 : Hid (Wr lo hi w wr) := hw
      have hlr : lo ≤ wr.heap.size := Nat.le_trans hlo hw.sz
      clear hr ha hw hrest
      by_cases hlt : j < n
      · have q3 : f (j * 6 + 3) = .slice none 0 0 := by rw [HRS.out _ (by omega), HF0.out j 3 hlt (by omega)]; rfl
        have q4 : f (j * 6 + 4) = .slice none 0 0 := by rw [HRS.out _ (by omega), HF0.out j 4 hlt (by omega)]; rfl
        have Q3 : Hid (f (j * 6 + 3) = .slice none 0 0) := q3
        have Q4 : Hid (f (j * 6 + 4) = .slice none 0 0) := q4
        clear q3 q4
        have hm1 := markT_size (k + j * 4)
        have hm2 := markT_size (k + j * 4 + 3)
        have i0 : (0 : Int) ≤ (j : Int) := by omega
        have i1 : (j : Int) < (n : Int) := by omega
        go_wp2_with fail
        refine (markText_int _ (k + j * 4) (by push_cast; omega) (by omega) _).mono ?_
        rintro e w1 ⟨rfl, hb1⟩
        have HW1 : Hid (w1.rowIs g 38 m f) := HW.out.of_block (hb1.block g HW.out.lt)
        have HR3 : Hid (Wr lo hi w w1) := HR2.out.trans (Wr.of_below hb1 hlr)
        have HG1 : Hid (w.grownBy w1 (some g)) := grown_trans HG.out (grown_of_below _ hb1)
        have hl1 : lo ≤ w1.heap.size := Nat.le_trans hlr hb1.size
        clear hb1
        -- the four stores
        have d0 := HW1.out.cell (i := j * 6) (by omega)
        have g0 := HW1.out.frozen (j * 6)
        have d1 := HW1.out.cell (i := j * 6 + 1) (by omega)
        have g1 := HW1.out.frozen (j * 6 + 1)
        have d2 := HW1.out.cell (i := j * 6 + 2) (by omega)
        have g2 := HW1.out.frozen (j * 6 + 2)
        have d3 := HW1.out.cell (i := j * 6 + 3) (by omega)
        have d4 := HW1.out.cell (i := j * 6 + 4) (by omega)
        rw [Q3.out] at d3
        rw [Q4.out] at d4
        go_wp2_with fail
        obtain ⟨w3, hw3⟩ : ∃ x, (((w1.setCell ⟨g, j * 6, none⟩ (.string (markT (k + j * 4)))).setCell ⟨g, j * 6 + 1, none⟩ (.bool (((k : Int) + j * 4 + 1) % 3 == 0))).setCell ⟨g, j * 6 + 2, none⟩ (.int .i64 ((k : Int) + j * 4 + 1 + 1))) = x := ⟨_, rfl⟩
        have HW3 : Hid (w3.rowIs g 38 m (fun i => if i = j * 6 + 2 then .int .i64 ((k : Int) + j * 4 + 1 + 1) else if i = j * 6 + 1 then .bool (((k : Int) + j * 4 + 1) % 3 == 0) else if i = j * 6 then .string (markT (k + j * 4)) else f i)) := by rw [← hw3]; exact ((HW1.out.set _ _).set _ _).set _ _
        have HR4 : Hid (Wr lo hi w w3) := by rw [← hw3]; exact ((HR3.out.trans (Wr.set w1 (p := ⟨g, j * 6, none⟩) hg hgh rfl _)).trans (Wr.set _ (p := ⟨g, j * 6 + 1, none⟩) hg hgh rfl _)).trans (Wr.set _ (p := ⟨g, j * 6 + 2, none⟩) hg hgh rfl _)
        have HG3 : Hid (w.grownBy w3 (some g)) := by rw [← hw3]; exact grown_trans (grown_trans (grown_trans HG1.out (grown_set _ _ _ _)) (grown_set _ _ _ _)) (grown_set _ _ _ _)
        have hl3 : lo ≤ w3.heap.size := Nat.le_trans hlo HR4.out.sz
        rw [hw3]
        clear hw3 d0 d1 d2 d3 d4 g0 g1 g2
        have d4 := HW3.out.cell (i := j * 6 + 4) (by omega)
        rw [if_neg (by omega), if_neg (by omega), if_neg (by omega), Q4.out] at d4
        refine (markAffixS_nil _ _).mono ?_
        rintro e w4 ⟨rfl, he⟩
        rw [he]
        clear he
        go_wp2_with fail
        refine (markEntryS_nil _ _).mono ?_
        rintro e w5 ⟨rfl, he⟩
        rw [he]
        clear he d4
        go_wp2_with fail
        refine (markText_int _ (k + j * 4 + 3) (by push_cast; omega) (by omega) _).mono ?_
        rintro e w6 ⟨rfl, hb6⟩
        have HW6 := HW3.out.of_block (hb6.block g HW3.out.lt)
        have H6 : Hid (w6.rowIs g 38 m _) := HW6
        have HR6 : Hid (Wr lo hi w w6) := HR4.out.trans (Wr.of_below hb6 hl3)
        have HG6 : Hid (w.grownBy w6 (some g)) := grown_trans HG3.out (grown_of_below _ hb6)
        have d5 := HW6.cell (i := j * 6 + 5) (by omega)
        have g5 := HW6.frozen (j * 6 + 5)
        clear hb6 HW6
        go_wp2
        go_roundw
        case rel =>
          refine ⟨j + 1, _, by omega, by go_num, by go_num, H6.out.set (j * 6 + 5) _, cliTo_next HA.out Q3.out Q4.out, fun i hi => ?_, HR6.out.trans (Wr.set w6 (p := ⟨g, j * 6 + 5, none⟩) hg hgh rfl _), grown_trans HG6.out (grown_set _ _ _ _)⟩
          rw [if_neg (by omega), if_neg (by omega), if_neg (by omega), if_neg (by omega)]
          exact HRS.out i (by omega)
        case measure => simp [intOf]; omega
      · have hje : j = n := by omega
        subst hje
        go_wp2
        go_ret
        exact ⟨by push_cast; rfl, ⟨_, cap, rfl, hc, HC.out, fun _ => ⟨g, m, f, rfl, hg, hgh, hle, HW.out, HA.out⟩⟩, HR2.out, by rw [rowOf_pos h0]; exact HG.out⟩
set_option maxHeartbeats 2000000 in
theorem heldClientS_new (w : World) (v : Value) (n k lo hi : Nat) (h : CliOwn lo hi w v n (markF k)) (hn : n ≤ 3) (hk : k ≤ 1000000) :
    Calls Try.prog 22 #[v, .int .i64 k] w fun e w' => e = .returned (.int .i64 ((k + n * 4 : Nat) : Int)) ∧ Below w.heap.size w w' := by
  obtain ⟨a, cap, rfl, hc, hm⟩ := h.form
  have HV : Hid (CliOwn lo hi w (.slice a n cap) n (markF k)) := h
  clear h
  unfold maxLen at hm
  go_enter Try.func22, Try.ntmps22
  go_wp2
  go_loopw [1, 5] (fun kv i wr => ∃ j : Nat, j ≤ n ∧ kv = .int .i64 (k + j * 4) ∧ i = .int .i64 j ∧ Below w.heap.size w wr) (fun _ i _ => n - (intOf i).toNat)
  case atStart => exact ⟨0, Nat.zero_le _, by simp, rfl, Below.refl _ _⟩
  case round =>
    obtain ⟨j, hj, rfl, rfl, hb⟩ := hrel
    have HR : Hid (Below w.heap.size w wr) := hb
    clear hb
    by_cases hlt : j < n
    · obtain ⟨g, cap1, hv, _, hg, _, hkk⟩ := CliOwn.at (RowOwn.below HV.out HR.out) hlt
      cases hv
      have HZ : Hid (∀ w', Below wr.heap.size wr w' → w'.cell? ⟨g, j * 6, none⟩ = some (.string (markT (k + j * 4))) ∧ w'.cell? ⟨g, j * 6 + 1, none⟩ = some (.bool (((k : Int) + j * 4 + 1) % 3 == 0)) ∧ w'.cell? ⟨g, j * 6 + 2, none⟩ = some (.int .i64 ((k : Int) + j * 4 + 1 + 1)) ∧ w'.cell? ⟨g, j * 6 + 3, none⟩ = some (.slice none 0 0) ∧ w'.cell? ⟨g, j * 6 + 4, none⟩ = some (.slice none 0 0) ∧ w'.cell? ⟨g, j * 6 + 5, none⟩ = some (.string (markT (k + j * 4 + 3)))) := fun w' h => by
        have e1 : ∀ i, i < 6 → w'.cell? ⟨g, j * 6 + i, none⟩ = some (markF k j i) := fun i hi => (h.cell (p := ⟨g, j * 6 + i, none⟩) hg).trans (hkk i hi)
        exact ⟨e1 0 (by omega), e1 1 (by omega), e1 2 (by omega), e1 3 (by omega), e1 4 (by omega), e1 5 (by omega)⟩
      clear hkk
      obtain ⟨c0, c1, c2, c3, c4, c5⟩ := HZ.out wr (Below.refl _ _)
      have i0 : (0 : Int) ≤ (j : Int) := by omega
      have i1 : (j : Int) < (n : Int) := by omega
      have hm1 := markT_size (k + j * 4)
      have hm2 := markT_size (k + j * 4 + 3)
      go_wp2_with fail
      go_region_held3 (fun w' => w'.cell? ⟨g, j * 6, none⟩ = some (.string (markT (k + j * 4)))) (exact c0)
        ((go_at_call 27; refine (markText_int _ (k + j * 4) (by push_cast; omega) (by omega) _).mono ?_; rintro e w1 ⟨rfl, hb1⟩; have H1 : Hid (Below wr.heap.size wr w1) := (Below.drew (Below.refl wr.heap.size wr)).trans hb1; clear hb1 c0 c1 c2 c3 c4 c5; obtain ⟨c0, c1, c2, c3, c4, c5⟩ := HZ.out w1 H1.out))
      go_wp2_with fail
      refine (heldAffixS_nil _ _).mono ?_
      rintro e w2 ⟨rfl, he⟩
      rw [he]
      clear he
      have n3 : ¬ ((k : Int) + j * 4 + 1 + 1 + 1 < 0) := by omega
      go_wp2_with fail
      refine (heldEntryS_nil _ _).mono ?_
      rintro e w2 ⟨rfl, he⟩
      rw [he]
      clear he
      go_wp2_with fail
      go_region_held3 (fun w' => w'.cell? ⟨g, j * 6 + 5, none⟩ = some (.string (markT (k + j * 4 + 3)))) (exact c5)
        ((go_at_call 27; refine (markText_int _ (k + j * 4 + 3) (by push_cast; omega) (by omega) _).mono ?_; rintro e w4 ⟨rfl, hb4⟩; have H4 : Hid (Below wr.heap.size wr w4) := H1.out.trans (Below.mono ((Below.drew (Below.refl w1.heap.size w1)).trans hb4) H1.out.size); clear hb4 c0 c1 c2 c3 c4 c5; obtain ⟨c0, c1, c2, c3, c4, c5⟩ := HZ.out w4 H4.out))
      go_wp2
      go_roundw
      case rel => exact ⟨j + 1, by omega, by go_num, by go_num, HR.out.trans (H4.out.mono HR.out.size)⟩
      case measure => simp [intOf]; omega
    · have hje : j = n := by omega
      subst hje
      go_wp2
      go_ret
      exact ⟨by push_cast; rfl, HR.out⟩
end Go.Proofs.Ytfpkphkgnolkkaa
