/-
  FnClientNew.
-/
import Derived.Test.YtmjhgniilhbgeaaGreatDoorW221
namespace Go.Proofs.YtmjhgniilhbgeaaGreatDoor
open Go.RowKit
set_option linter.unusedVariables false
theorem sEqualA_nil (w : World) : Calls Tryz.prog 19 #[.slice none 0 0, .slice none 0 0] w fun e w' => e = .returned (.bool true) ∧ w' = w := by
  go_enter Tryz.func19, Tryz.ntmps19
  go_wp2
  go_loopw [13] (fun i wr => i = .int .i64 0 ∧ wr = w) (fun i _ => 0)
  case atStart => exact ⟨rfl, rfl⟩
  case round =>
    obtain ⟨rfl, hw⟩ := hrel
    subst hw
    go_wp2
    go_ret
    exact ⟨rfl, rfl⟩
theorem sEqualE_nil (w : World) : Calls Tryz.prog 20 #[.slice none 0 0, .slice none 0 0] w fun e w' => e = .returned (.bool true) ∧ w' = w := by
  go_enter Tryz.func20, Tryz.ntmps20
  go_wp2
  go_loopw [13] (fun i wr => i = .int .i64 0 ∧ wr = w) (fun i _ => 0)
  case atStart => exact ⟨rfl, rfl⟩
  case round =>
    obtain ⟨rfl, hw⟩ := hrel
    subst hw
    go_wp2
    go_ret
    exact ⟨rfl, rfl⟩
set_option maxHeartbeats 1000000 in
theorem sameBook_nil (w : World) : Calls Tryz.prog 15 #[.agg #[.slice none 0 0, .slice none 0 0], .agg #[.slice none 0 0, .slice none 0 0]] w fun e w' => e = .returned (.bool true) ∧ Below w.heap.size w w' := by
  have HB : Hid (Below w.heap.size w ((w.alloc (.cells #[.slice none 0 0, .slice none 0 0] 27)).alloc (.cells #[.slice none 0 0, .slice none 0 0] 27))) := ((Below.refl _ _).alloc (Nat.le_refl _) _).alloc (by simp) _
  go_enter Tryz.func15, Tryz.ntmps15
  go_wp2_with fail
  refine (sEqualA_nil _).mono ?_
  rintro e w1 ⟨rfl, he⟩
  rw [he]
  clear he
  go_wp2_with fail
  refine (sEqualE_nil _).mono ?_
  rintro e w2 ⟨rfl, he⟩
  rw [he]
  clear he
  go_wp2
  go_ret
  exact ⟨rfl, HB.out⟩
set_option maxRecDepth 100000 in
set_option maxHeartbeats 2000000 in
theorem clientOk_new (s : ByteArray) (w : World) (hs : s.size ≤ maxLen) (hk : keyT s = true) : Calls Tryz.prog 8 #[.agg #[.string s, .bool true, .int .i64 0, .slice none 0 0, .slice none 0 0, .string ⟨#[]⟩]] w fun e w' => e = .returned (.bool true) ∧ Below w.heap.size w w' := by
  obtain ⟨w0, hw0⟩ : ∃ x, w.alloc (.cells #[.string s, .bool true, .int .i64 0, .slice none 0 0, .slice none 0 0, .string ⟨#[]⟩] 29) = x := ⟨_, rfl⟩
  have HB : Hid (Below w.heap.size w w0) := by rw [← hw0]; exact (Below.refl _ _).alloc (Nat.le_refl _) _
  have HX : Hid (w0.heap[w.heap.size]? = some (.cells #[.string s, .bool true, .int .i64 0, .slice none 0 0, .slice none 0 0, .string ⟨#[]⟩] 29 (0, 0))) := by show _ = _; rw [← hw0]; exact heap_alloc_last w _
  have HZ : Hid (∀ w', Below w0.heap.size w0 w' → w'.cell? ⟨w.heap.size, 0, none⟩ = some (.string s) ∧ w'.cell? ⟨w.heap.size, 1, none⟩ = some (.bool true) ∧ w'.cell? ⟨w.heap.size, 2, none⟩ = some (.int .i64 0) ∧ w'.cell? ⟨w.heap.size, 3, none⟩ = some (.slice none 0 0) ∧ w'.cell? ⟨w.heap.size, 4, none⟩ = some (.slice none 0 0) ∧ w'.cell? ⟨w.heap.size, 5, none⟩ = some (.string ⟨#[]⟩)) := fun w' h => by
    have e := (h.block _ (lt_of_block HX.out)).trans HX.out
    exact ⟨by rw [cell_of_row _ _ 0 _ _ _ e]; rfl, by rw [cell_of_row _ _ 1 _ _ _ e]; rfl, by rw [cell_of_row _ _ 2 _ _ _ e]; rfl, by rw [cell_of_row _ _ 3 _ _ _ e]; rfl, by rw [cell_of_row _ _ 4 _ _ _ e]; rfl, by rw [cell_of_row _ _ 5 _ _ _ e]; rfl⟩
  obtain ⟨c0, c1, c2, c3, c4, c5⟩ := HZ.out w0 (Below.refl _ _)
  go_enter Tryz.func8, Tryz.ntmps8
  go_wp2_with fail
  clear hw0
  refine (keyOk_any _ _ hs).mono ?_
  rintro e w1 ⟨rfl, he⟩
  rw [he, hk]
  clear he
  go_wp2_with fail
  refine (readFile_none s w0).mono ?_
  rintro e w2 ⟨rfl, hb2⟩
  have HC2 : Hid (Below w.heap.size w w2) := HB.out.trans (hb2.mono HB.out.size)
  have hz2 : w.heap.size < w2.heap.size := Nat.lt_of_lt_of_le (lt_of_block HX.out) hb2.size
  clear c0 c1 c2 c3 c4 c5
  obtain ⟨c0, c1, c2, c3, c4, c5⟩ := HZ.out w2 hb2
  clear hb2
  go_wp2_with fail
  refine (sameBook_nil _).mono ?_
  rintro e w4 ⟨rfl, hb4⟩
  have HB4 : Hid (Below w.heap.size w w4) := (HC2.out.alloc HC2.out.size _).trans (hb4.mono (by simp; have := HC2.out.size; omega))
  clear hb4
  go_wp2
  go_ret
  exact ⟨rfl, HB4.out⟩
set_option maxHeartbeats 400000 in
theorem implClientNew_v (w : World) (s : ByteArray) (hs : s.size ≤ maxLen) : Calls Tryz.prog 5 #[.string s] w fun e w' => e = .returned (.agg (bif keyT s then #[.string s, .bool true, .int .i64 0, .slice none 0 0, .slice none 0 0, .string ⟨#[]⟩] else #[.string ⟨#[]⟩, .bool false, .int .i64 0, .slice none 0 0, .slice none 0 0, .string ⟨#[]⟩])) ∧ Below w.heap.size w w' := by
  cases hk : keyT s with
  | false =>
    go_enter Tryz.func5, Tryz.ntmps5
    go_wp2_with fail
    refine (keyOk_any _ _ hs).mono ?_
    rintro e w1 ⟨rfl, rfl⟩
    rw [hk]
    go_wp2
    refine bodyPost_ret (v := .agg #[.string ⟨#[]⟩, .bool false, .int .i64 0, .slice none 0 0, .slice none 0 0, .string ⟨#[]⟩]) (by simp [results, Tryz.results5, go_sem]) rfl ⟨rfl, ?_⟩
    repeat refine Below.setCell ?_ (Nat.le_refl _) _
    exact (Below.refl _ _).alloc (Nat.le_refl _) _
  | true =>
    go_enter Tryz.func5, Tryz.ntmps5
    go_wp2_with fail
    refine (keyOk_any _ _ hs).mono ?_
    rintro e w1 ⟨rfl, rfl⟩
    rw [hk]
    go_wp2
    refine bodyPost_ret (v := .agg #[.string s, .bool true, .int .i64 0, .slice none 0 0, .slice none 0 0, .string ⟨#[]⟩]) (by simp [results, Tryz.results5, go_sem]) rfl ⟨rfl, ?_⟩
    repeat refine Below.setCell ?_ (Nat.le_refl _) _
    exact (Below.refl _ _).alloc (Nat.le_refl _) _
set_option maxHeartbeats 400000 in
theorem specClientNew_v (w : World) (s : ByteArray) (hs : s.size ≤ maxLen) : Calls Tryz.prog 7 #[.string s] w fun e w' => e = .returned (.agg (bif keyT s then #[.string s, .bool true, .int .i64 0, .slice none 0 0, .slice none 0 0, .string ⟨#[]⟩] else #[.string ⟨#[]⟩, .bool false, .int .i64 0, .slice none 0 0, .slice none 0 0, .string ⟨#[]⟩])) ∧ Below w.heap.size w w' := by
  cases hk : keyT s with
  | false =>
    go_enter Tryz.func7, Tryz.ntmps7
    go_wp2_with fail
    refine (l6Key_any _ _ hs).mono ?_
    rintro e w1 ⟨rfl, rfl⟩
    rw [hk]
    go_wp2
    refine bodyPost_ret (v := .agg #[.string ⟨#[]⟩, .bool false, .int .i64 0, .slice none 0 0, .slice none 0 0, .string ⟨#[]⟩]) (by simp [results, Tryz.results7, go_sem]) rfl ⟨rfl, ?_⟩
    repeat refine Below.setCell ?_ (Nat.le_refl _) _
    exact (Below.refl _ _).alloc (Nat.le_refl _) _
  | true =>
    go_enter Tryz.func7, Tryz.ntmps7
    go_wp2_with fail
    refine (l6Key_any _ _ hs).mono ?_
    rintro e w1 ⟨rfl, rfl⟩
    rw [hk]
    go_wp2
    refine bodyPost_ret (v := .agg #[.string s, .bool true, .int .i64 0, .slice none 0 0, .slice none 0 0, .string ⟨#[]⟩]) (by simp [results, Tryz.results7, go_sem]) rfl ⟨rfl, ?_⟩
    repeat refine Below.setCell ?_ (Nat.le_refl _) _
    exact (Below.refl _ _).alloc (Nat.le_refl _) _
set_option maxRecDepth 100000 in
set_option maxHeartbeats 2000000 in
theorem fnClientNew_walk (a : Option Addr) (len cap : Nat) (zs : List Int) (w : World) (h : IsRow .u8 w a len cap zs) :
    Calls Tryz.prog 3 #[.slice a len cap] w fun e w' => e = .returned (.bool true) ∧ Below w.heap.size w w' := by
  by_cases h1 : (1048576 : Int) < (len : Int)
  · clear h
    go_enter Tryz.func3, Tryz.ntmps3
    go_wp2
    go_ret
    exact ⟨rfl, Below.refl _ _⟩
  have HI : Hid (IsRow .u8 w a len cap zs) := h
  clear h
  go_enter Tryz.func3, Tryz.ntmps3
  go_wp2_with fail
  refine (drawClientNew_any w a len cap zs HI.out).mono ?_
  rintro e w1 ⟨s, rfl, hs, hb1⟩
  have HM : Hid (s.size ≤ maxLen) := by show _ ≤ _; unfold maxLen; omega
  have HB1 : Hid (Below w.heap.size w w1) := hb1
  clear hb1
  go_wp2_with fail
  refine (implClientNew_v w1 s HM.out).mono ?_
  rintro e w2 ⟨rfl, hb2⟩
  have HB2 : Hid (Below w.heap.size w w2) := HB1.out.trans (hb2.mono HB1.out.size)
  clear hb2
  cases hk : keyT s with
  | false =>
    rw [cond_false]
    go_wp2_with fail
    obtain ⟨w3, hw3⟩ : ∃ x, w2.alloc (.cells #[.string ⟨#[]⟩, .bool false, .int .i64 0, .slice none 0 0, .slice none 0 0, .string ⟨#[]⟩] 29) = x := ⟨_, rfl⟩
    have B3 : Hid (Below w.heap.size w w3) := by rw [← hw3]; exact HB2.out.alloc HB2.out.size _
    have HX : Hid (w3.heap[w2.heap.size]? = some (.cells #[.string ⟨#[]⟩, .bool false, .int .i64 0, .slice none 0 0, .slice none 0 0, .string ⟨#[]⟩] 29 (0, 0))) := by show _ = _; rw [← hw3]; exact heap_alloc_last w2 _
    have HZ : Hid (∀ w', Below w3.heap.size w3 w' → w'.cell? ⟨w2.heap.size, 0, none⟩ = some (.string ⟨#[]⟩) ∧ w'.cell? ⟨w2.heap.size, 1, none⟩ = some (.bool false) ∧ w'.cell? ⟨w2.heap.size, 2, none⟩ = some (.int .i64 0) ∧ w'.cell? ⟨w2.heap.size, 3, none⟩ = some (.slice none 0 0) ∧ w'.cell? ⟨w2.heap.size, 4, none⟩ = some (.slice none 0 0) ∧ w'.cell? ⟨w2.heap.size, 5, none⟩ = some (.string ⟨#[]⟩)) := fun w' h => by
      have e := (h.block _ (lt_of_block HX.out)).trans HX.out
      exact ⟨by rw [cell_of_row _ _ 0 _ _ _ e]; rfl, by rw [cell_of_row _ _ 1 _ _ _ e]; rfl, by rw [cell_of_row _ _ 2 _ _ _ e]; rfl, by rw [cell_of_row _ _ 3 _ _ _ e]; rfl, by rw [cell_of_row _ _ 4 _ _ _ e]; rfl, by rw [cell_of_row _ _ 5 _ _ _ e]; rfl⟩
    obtain ⟨c0, c1, c2, c3, c4, c5⟩ := HZ.out w3 (Below.refl _ _)
    have HD : Hid (Below w3.heap.size w3 w3.drew) := (Below.refl _ _).drew
    rw [hw3]
    clear hw3
    go_region_held3 (fun w' => w'.cell? ⟨w2.heap.size, 0, none⟩ = some (.string ⟨#[]⟩) ∧ w'.cell? ⟨w2.heap.size, 1, none⟩ = some (.bool false) ∧ w'.cell? ⟨w2.heap.size, 2, none⟩ = some (.int .i64 0) ∧ w'.cell? ⟨w2.heap.size, 3, none⟩ = some (.slice none 0 0) ∧ w'.cell? ⟨w2.heap.size, 4, none⟩ = some (.slice none 0 0) ∧ w'.cell? ⟨w2.heap.size, 5, none⟩ = some (.string ⟨#[]⟩)) (go_keep)
      (first
        | (have q := HF4; clear q; go_at_call 6; refine (mdClient_zero s _).mono ?_; rintro e w5 ⟨rfl, hb5⟩; have HF5 : Hid (Below w3.heap.size w3 w5) := HF4.out.trans (hb5.mono HF4.out.size); clear hb5 c0 c1 c2 c3 c4 c5; obtain ⟨c0, c1, c2, c3, c4, c5⟩ := HZ.out w5 HF5.out)
        | (go_at_call 7; refine (specClientNew_v _ s HM.out).mono ?_; rintro e w4 ⟨rfl, hb4⟩; rw [hk, cond_false]; have HF4 : Hid (Below w3.heap.size w3 w4) := HD.out.trans (hb4.mono HD.out.size); clear hb4 c0 c1 c2 c3 c4 c5; obtain ⟨c0, c1, c2, c3, c4, c5⟩ := HZ.out w4 HF4.out))
    have HD5 : Hid (Below w3.heap.size w3 w5.drew) := HF5.out.drew
    go_wp2_with fail
    go_region_held3 (fun w' => w'.cell? ⟨w2.heap.size, 0, none⟩ = some (.string ⟨#[]⟩) ∧ w'.cell? ⟨w2.heap.size, 1, none⟩ = some (.bool false) ∧ w'.cell? ⟨w2.heap.size, 2, none⟩ = some (.int .i64 0) ∧ w'.cell? ⟨w2.heap.size, 3, none⟩ = some (.slice none 0 0) ∧ w'.cell? ⟨w2.heap.size, 4, none⟩ = some (.slice none 0 0) ∧ w'.cell? ⟨w2.heap.size, 5, none⟩ = some (.string ⟨#[]⟩)) (go_keep)
      (first
        | (have q := HF6; clear q; go_at_call 6; refine (mdClient_zero s _).mono ?_; rintro e w7 ⟨rfl, hb7⟩; have HF7 : Hid (Below w3.heap.size w3 w7) := HF6.out.trans (hb7.mono HF6.out.size); clear hb7 c0 c1 c2 c3 c4 c5; obtain ⟨c0, c1, c2, c3, c4, c5⟩ := HZ.out w7 HF7.out)
        | (go_at_call 7; refine (specClientNew_v _ s HM.out).mono ?_; rintro e w6 ⟨rfl, hb6⟩; rw [hk, cond_false]; have HF6 : Hid (Below w3.heap.size w3 w6) := HD5.out.trans (hb6.mono HD5.out.size); clear hb6 c0 c1 c2 c3 c4 c5; obtain ⟨c0, c1, c2, c3, c4, c5⟩ := HZ.out w6 HF6.out))
    go_wp2
    go_ret
    exact ⟨rfl, B3.out.trans (HF7.out.mono B3.out.size)⟩
  | true =>
    have HK : Hid (keyT s = true) := hk
    have hne : ¬ s.toList = [] := by
      intro e
      have h1 : ¬ 1 ≤ s.size := fun h => listSome h e
      have h2 := keyT_none h1
      rw [hk] at h2
      cases h2
    have hne2 : (s.toList == ([] : List UInt8)) = false := by simpa using hne
    rw [cond_true]
    go_wp2_with fail
    obtain ⟨w3, hw3⟩ : ∃ x, w2.alloc (.cells #[.string s, .bool true, .int .i64 0, .slice none 0 0, .slice none 0 0, .string ⟨#[]⟩] 29) = x := ⟨_, rfl⟩
    have B3 : Hid (Below w.heap.size w w3) := by rw [← hw3]; exact HB2.out.alloc HB2.out.size _
    have HX : Hid (w3.heap[w2.heap.size]? = some (.cells #[.string s, .bool true, .int .i64 0, .slice none 0 0, .slice none 0 0, .string ⟨#[]⟩] 29 (0, 0))) := by show _ = _; rw [← hw3]; exact heap_alloc_last w2 _
    have HZ : Hid (∀ w', Below w3.heap.size w3 w' → w'.cell? ⟨w2.heap.size, 0, none⟩ = some (.string s) ∧ w'.cell? ⟨w2.heap.size, 1, none⟩ = some (.bool true) ∧ w'.cell? ⟨w2.heap.size, 2, none⟩ = some (.int .i64 0) ∧ w'.cell? ⟨w2.heap.size, 3, none⟩ = some (.slice none 0 0) ∧ w'.cell? ⟨w2.heap.size, 4, none⟩ = some (.slice none 0 0) ∧ w'.cell? ⟨w2.heap.size, 5, none⟩ = some (.string ⟨#[]⟩)) := fun w' h => by
      have e := (h.block _ (lt_of_block HX.out)).trans HX.out
      exact ⟨by rw [cell_of_row _ _ 0 _ _ _ e]; rfl, by rw [cell_of_row _ _ 1 _ _ _ e]; rfl, by rw [cell_of_row _ _ 2 _ _ _ e]; rfl, by rw [cell_of_row _ _ 3 _ _ _ e]; rfl, by rw [cell_of_row _ _ 4 _ _ _ e]; rfl, by rw [cell_of_row _ _ 5 _ _ _ e]; rfl⟩
    obtain ⟨c0, c1, c2, c3, c4, c5⟩ := HZ.out w3 (Below.refl _ _)
    have HD : Hid (Below w3.heap.size w3 w3.drew) := (Below.refl _ _).drew
    rw [hw3]
    clear hw3
    go_region_held3 (fun w' => w'.cell? ⟨w2.heap.size, 0, none⟩ = some (.string s) ∧ w'.cell? ⟨w2.heap.size, 1, none⟩ = some (.bool true) ∧ w'.cell? ⟨w2.heap.size, 2, none⟩ = some (.int .i64 0) ∧ w'.cell? ⟨w2.heap.size, 3, none⟩ = some (.slice none 0 0) ∧ w'.cell? ⟨w2.heap.size, 4, none⟩ = some (.slice none 0 0) ∧ w'.cell? ⟨w2.heap.size, 5, none⟩ = some (.string ⟨#[]⟩)) (go_keep)
      (first
        | (have q := HF4; clear q; go_at_call 6; refine (mdClient_new s _).mono ?_; rintro e w5 ⟨rfl, hb5⟩; have HF5 : Hid (Below w3.heap.size w3 w5) := HF4.out.trans (hb5.mono HF4.out.size); clear hb5 c0 c1 c2 c3 c4 c5; obtain ⟨c0, c1, c2, c3, c4, c5⟩ := HZ.out w5 HF5.out)
        | (go_at_call 7; refine (specClientNew_v _ s HM.out).mono ?_; rintro e w4 ⟨rfl, hb4⟩; rw [hk, cond_true]; have HF4 : Hid (Below w3.heap.size w3 w4) := HD.out.trans (hb4.mono HD.out.size); clear hb4 c0 c1 c2 c3 c4 c5; obtain ⟨c0, c1, c2, c3, c4, c5⟩ := HZ.out w4 HF4.out))
    go_wp2_with fail
    refine (clientOk_new s _ HM.out HK.out).mono ?_
    rintro e w6 ⟨rfl, hb6⟩
    have HF6 : Hid (Below w3.heap.size w3 w6) := HF5.out.trans (hb6.mono HF5.out.size)
    clear hb6 c0 c1 c2 c3 c4 c5
    obtain ⟨c0, c1, c2, c3, c4, c5⟩ := HZ.out w6 HF6.out
    go_wp2_with fail
    refine (mdBook_nil _).mono ?_
    rintro e w7 ⟨rfl, hb7⟩
    have HF7 : Hid (Below w3.heap.size w3 w7) := HF6.out.trans (hb7.mono HF6.out.size)
    clear hb7
    go_wp2
    go_ret
    exact ⟨rfl, B3.out.trans (HF7.out.mono B3.out.size)⟩
end Go.Proofs.YtmjhgniilhbgeaaGreatDoor
