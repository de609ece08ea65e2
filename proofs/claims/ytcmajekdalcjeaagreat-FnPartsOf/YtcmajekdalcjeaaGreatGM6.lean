/-
  What the two loops over the letters of a text tell: whether each lies between two bounds.
-/
import Derived.Test.YtcmajekdalcjeaaGreatProg
import Derived.Test.YtcmajekdalcjeaaGreatGM7
import Derived.Test.YtcmajekdalcjeaaGreatM4
import Derived.WalkKit
import Derived.WalkSpells
import Derived.WalkLawsBesides
namespace Go.Proofs.YtcmajekdalcjeaaGreat
open Go.RowKit
set_option linter.unusedVariables false
theorem ret_bool {a b : Bool} (h : a = b) : Ending.returned (.bool a) = .returned (.bool b) := by rw [h]
set_option maxHeartbeats 400000 in
theorem letters_any (s : ByteArray) (most : Int) (w : World) (hs : s.size ≤ maxLen) :
    Calls Tryz.prog 46 #[.string s, .int .i64 most] w fun e w' => e = .returned (.bool (inr 97 122 s.data.toList && decide ((s.size : Int) ≤ most))) ∧ w' = w := by
  unfold maxLen at hs
  go_enter Tryz.func46, Tryz.ntmps46
  go_wp2
  go_loop [5] (fun i => ∃ k : Nat, k ≤ s.size ∧ i = .int .i64 k ∧ inr 97 122 (s.data.toList.take k) = true) (fun i => s.size - (intOf i).toNat)
  case atStart => exact ⟨0, Nat.zero_le _, rfl, rfl⟩
  case round =>
    obtain ⟨k, hk, rfl, hr⟩ := hrel
    have HR : Hid (inr 97 122 (s.data.toList.take k) = true) := hr
    clear hr
    by_cases hlt : k < s.size
    · go_wp2
      · go_ret
        exact ⟨ret_bool (by rw [inr_bad 97 122 s k hlt (by omega)]; rfl), rfl⟩
      · go_round
        case rel => exact ⟨k + 1, by omega, by go_num, by rw [inr_take_succ 97 122 s k hlt, HR.out]; simp; omega⟩
        case measure => simp [intOf]; omega
      · go_ret
        exact ⟨ret_bool (by rw [inr_bad 97 122 s k hlt (by omega)]; rfl), rfl⟩
    · go_wp2
      go_ret
      exact ⟨ret_bool (by rw [← inr_all 97 122 s k (by omega), HR.out]; rfl), rfl⟩
set_option maxHeartbeats 400000 in
theorem between_any (s : ByteArray) (lo hi : Int) (w : World) (hs : s.size ≤ maxLen) :
    Calls Tryz.prog 62 #[.string s, .int .u8 lo, .int .u8 hi] w fun e w' => e = .returned (.bool (inr lo hi s.data.toList)) ∧ w' = w := by
  unfold maxLen at hs
  go_enter Tryz.func62, Tryz.ntmps62
  go_wp2
  go_loop [10] (fun i => ∃ k : Nat, k ≤ s.size ∧ i = .int .i64 k ∧ inr lo hi (s.data.toList.take k) = true) (fun i => s.size - (intOf i).toNat)
  case atStart => exact ⟨0, Nat.zero_le _, rfl, rfl⟩
  case round =>
    obtain ⟨k, hk, rfl, hr⟩ := hrel
    have HR : Hid (inr lo hi (s.data.toList.take k) = true) := hr
    clear hr
    by_cases hlt : k < s.size
    · go_wp2
      · go_ret
        exact ⟨ret_bool (by rw [inr_bad lo hi s k hlt (by omega)]), rfl⟩
      · go_round
        case rel => exact ⟨k + 1, by omega, by go_num, by rw [inr_take_succ lo hi s k hlt, HR.out]; simp; omega⟩
        case measure => simp [intOf]; omega
      · go_ret
        exact ⟨ret_bool (by rw [inr_bad lo hi s k hlt (by omega)]), rfl⟩
    · go_wp2
      go_ret
      exact ⟨ret_bool (by rw [← inr_all lo hi s k (by omega), HR.out]), rfl⟩
end Go.Proofs.YtcmajekdalcjeaaGreat
/-
  What the functions WordOk and l1Word tell of a text: whether it is a word.
-/
namespace Go.Proofs.YtcmajekdalcjeaaGreat
open Go.RowKit
set_option linter.unusedVariables false
/-- A word: 1 to 12 letters. -/
def wok (s : ByteArray) : Bool := decide (0 < s.size) && (inr 97 122 s.data.toList && decide ((s.size : Int) ≤ 12))
theorem toList_nil (s : ByteArray) : s.toList = [] ↔ s.size = 0 := by
  rw [ByteArray.toList_eq]
  have : s.size = s.data.toList.length := rfl
  rw [this, List.length_eq_zero_iff]
set_option maxHeartbeats 400000 in
theorem l1Word_any (s : ByteArray) (w : World) (hs : s.size ≤ maxLen) :
    Calls Tryz.prog 24 #[.string s] w fun e w' => e = .returned (.bool (wok s)) ∧ w' = w := by
  by_cases h0 : 0 < s.size
  all_goals
    go_enter Tryz.func24, Tryz.ntmps24
    go_wp2_with (go_at_call 46; refine (letters_any _ _ _ hs).mono ?_; rintro e w' ⟨rfl, rfl⟩)
    go_ret
    exact ⟨ret_bool (by simp [wok, h0]), rfl⟩
set_option maxHeartbeats 400000 in
theorem wordOk_any (s : ByteArray) (w : World) (hs : s.size ≤ maxLen) :
    Calls Tryz.prog 41 #[.string s] w fun e w' => e = .returned (.bool (wok s)) ∧ w' = w := by
  unfold maxLen at hs
  by_cases h0 : s.toList = []
  · have h1 := (toList_nil s).1 h0
    go_enter Tryz.func41, Tryz.ntmps41
    go_wp2_with (go_at_call 62; refine (between_any _ _ _ _ hs).mono ?_; rintro e w' ⟨rfl, rfl⟩)
    go_ret
    exact ⟨ret_bool (by simp [wok, h1]), rfl⟩
  · have h1 : 0 < s.size := by have := mt (toList_nil s).2 h0; omega
    by_cases h2 : (s.size : Int) ≤ 12
    all_goals
      go_enter Tryz.func41, Tryz.ntmps41
      go_wp2_with (go_at_call 62; refine (between_any _ _ _ _ hs).mono ?_; rintro e w' ⟨rfl, rfl⟩)
      go_ret
      exact ⟨ret_bool (by simp [wok, h0, h1, h2]), rfl⟩
end Go.Proofs.YtcmajekdalcjeaaGreat
/-
  Plain mathematics: all that is one step from a text.
-/
namespace Go.Proofs.YtcmajekdalcjeaaGreat
set_option linter.unusedVariables false
/-- A text of one byte. -/
def chr (c : Nat) : ByteArray := ⟨#[UInt8.ofNat c]⟩
/-- The byte put at a place; in the place of the one there; one less; two turned. -/
def insT (s : ByteArray) (i c : Nat) : ByteArray := s.extract 0 i ++ chr c ++ s.extract i s.size
def chgT (s : ByteArray) (i c : Nat) : ByteArray := s.extract 0 i ++ chr c ++ s.extract (i + 1) s.size
def delT (s : ByteArray) (i : Nat) : ByteArray := s.extract 0 i ++ s.extract (i + 1) s.size
def swpT (s : ByteArray) (i : Nat) : ByteArray := s.extract 0 i ++ s.extract (i + 1) (i + 2) ++ s.extract i (i + 1) ++ s.extract (i + 2) s.size
/-- One text more, if it is a word, and another one. -/
def stepP (s : ByteArray) (out : List ByteArray) (x : ByteArray) : List ByteArray := if x = s ∨ wok x = false then out else put out x
/-- What one letter makes at a place. -/
def candsC (s : ByteArray) (i j : Nat) : List ByteArray := insT s i (97 + j) :: if i < s.size then [chgT s i (97 + j)] else []
def candsE (s : ByteArray) (i : Nat) : List ByteArray := (if i < s.size then [delT s i] else []) ++ (if i + 1 < s.size then [swpT s i] else [])
def innerTo (s : ByteArray) (i : Nat) (o : List ByteArray) (j : Nat) : List ByteArray := (List.range j).foldl (fun o j => (candsC s i j).foldl (stepP s) o) o
def nearTo (s : ByteArray) (n : Nat) : List ByteArray := (List.range n).foldl (fun o i => (candsE s i).foldl (stepP s) (innerTo s i o 26)) []
/-- All words of one step, in order. -/
def near (s : ByteArray) : List ByteArray := nearTo s (s.size + 1)
theorem innerTo_succ (s : ByteArray) (i : Nat) (o : List ByteArray) (j : Nat) : innerTo s i o (j + 1) = (candsC s i j).foldl (stepP s) (innerTo s i o j) := by
  unfold innerTo; rw [List.range_succ, List.foldl_append]; rfl
theorem nearTo_succ (s : ByteArray) (n : Nat) : nearTo s (n + 1) = (candsE s n).foldl (stepP s) (innerTo s n (nearTo s n) 26) := by
  unfold nearTo; rw [List.range_succ, List.foldl_append]; rfl
theorem put_length (l : List ByteArray) (s : ByteArray) : (put l s).length ≤ l.length + 1 := by
  induction l with
  | nil => simp [put]
  | cons x xs ih =>
    unfold put
    split
    · simp; omega
    · split <;> simp
theorem stepP_length (s : ByteArray) (o : List ByteArray) (x : ByteArray) : (stepP s o x).length ≤ o.length + 1 := by
  unfold stepP
  split
  · omega
  · exact put_length o x
theorem fold_length (s : ByteArray) (l : List ByteArray) : ∀ o, (l.foldl (stepP s) o).length ≤ o.length + l.length := by
  induction l with
  | nil => intro o; simp
  | cons x xs ih =>
    intro o
    have h1 := ih (stepP s o x)
    have h2 := stepP_length s o x
    simp only [List.foldl_cons, List.length_cons]
    omega
theorem candsC_length (s : ByteArray) (i j : Nat) : (candsC s i j).length ≤ 2 := by unfold candsC; split <;> simp
theorem candsE_length (s : ByteArray) (i : Nat) : (candsE s i).length ≤ 2 := by
  unfold candsE
  rw [List.length_append]
  split <;> split <;> simp
theorem innerTo_length (s : ByteArray) (i : Nat) (o : List ByteArray) (j : Nat) : (innerTo s i o j).length ≤ o.length + 2 * j := by
  induction j with
  | zero => simp [innerTo]
  | succ j ih =>
    rw [innerTo_succ]
    have h1 := fold_length s (candsC s i j) (innerTo s i o j)
    have h2 := candsC_length s i j
    omega
theorem nearTo_length (s : ByteArray) (n : Nat) : (nearTo s n).length ≤ 54 * n := by
  induction n with
  | zero => simp [nearTo]
  | succ n ih =>
    rw [nearTo_succ]
    have h1 := fold_length s (candsE s n) (innerTo s n (nearTo s n) 26)
    have h2 := candsE_length s n
    have h3 := innerTo_length s n (nearTo s n) 26
    omega
theorem fold_asc (s : ByteArray) (l : List ByteArray) : ∀ o, Asc o → Asc (l.foldl (stepP s) o) := by
  induction l with
  | nil => intro o h; exact h
  | cons x xs ih =>
    intro o h
    apply ih
    unfold stepP
    split
    · exact h
    · exact asc_put o x h
theorem fold_mem (s : ByteArray) (l : List ByteArray) (y : ByteArray) : ∀ o, y ∈ l.foldl (stepP s) o ↔ y ∈ o ∨ (y ∈ l ∧ y ≠ s ∧ wok y = true) := by
  induction l with
  | nil => intro o; simp
  | cons x xs ih =>
    intro o
    rw [List.foldl_cons, ih]
    unfold stepP
    split
    · next h =>
      constructor
      · rintro (h1 | ⟨h1, h2⟩)
        · exact .inl h1
        · exact .inr ⟨List.mem_cons_of_mem _ h1, h2⟩
      · rintro (h1 | ⟨h1, h2, h3⟩)
        · exact .inl h1
        · rcases List.mem_cons.1 h1 with e | h1
          · subst e
            rcases h with h | h
            · exact absurd h h2
            · rw [h] at h3; cases h3
          · exact .inr ⟨h1, h2, h3⟩
    · next h =>
      rw [mem_put]
      constructor
      · rintro ((h1 | h1) | ⟨h1, h2⟩)
        · subst h1
          exact .inr ⟨by simp, fun e => h (.inl e), by cases hw : wok y with | true => rfl | false => exact absurd (.inr hw) h⟩
        · exact .inl h1
        · exact .inr ⟨List.mem_cons_of_mem _ h1, h2⟩
      · rintro (h1 | ⟨h1, h2⟩)
        · exact .inl (.inr h1)
        · rcases List.mem_cons.1 h1 with e | h1
          · exact .inl (.inl e)
          · exact .inr ⟨h1, h2⟩
theorem innerTo_asc (s : ByteArray) (i : Nat) (o : List ByteArray) (h : Asc o) (j : Nat) : Asc (innerTo s i o j) := by
  induction j with
  | zero => exact h
  | succ j ih => rw [innerTo_succ]; exact fold_asc s _ _ ih
theorem nearTo_asc (s : ByteArray) (n : Nat) : Asc (nearTo s n) := by
  induction n with
  | zero => simp [nearTo, Asc]
  | succ n ih => rw [nearTo_succ]; exact fold_asc s _ _ (innerTo_asc s n _ ih 26)
theorem innerTo_mem (s : ByteArray) (i : Nat) (o : List ByteArray) (y : ByteArray) (j : Nat) : y ∈ innerTo s i o j ↔ y ∈ o ∨ ((∃ c, c < j ∧ y ∈ candsC s i c) ∧ y ≠ s ∧ wok y = true) := by
  induction j with
  | zero => simp [innerTo]
  | succ j ih =>
    rw [innerTo_succ, fold_mem, ih]
    constructor
    · rintro ((h | ⟨⟨c, h1, h2⟩, h3⟩) | ⟨h, h3⟩)
      · exact .inl h
      · exact .inr ⟨⟨c, by omega, h2⟩, h3⟩
      · exact .inr ⟨⟨j, by omega, h⟩, h3⟩
    · rintro (h | ⟨⟨c, h1, h2⟩, h3⟩)
      · exact .inl (.inl h)
      · by_cases e : c = j
        · subst e; exact .inr ⟨h2, h3⟩
        · exact .inl (.inr ⟨⟨c, by omega, h2⟩, h3⟩)
/-- All that one step makes. -/
def Cand (s y : ByteArray) (n : Nat) : Prop := ∃ i, i < n ∧ ((∃ c, c < 26 ∧ y ∈ candsC s i c) ∨ y ∈ candsE s i)
theorem nearTo_mem (s y : ByteArray) (n : Nat) : y ∈ nearTo s n ↔ Cand s y n ∧ y ≠ s ∧ wok y = true := by
  induction n with
  | zero => simp [nearTo, Cand]
  | succ n ih =>
    rw [nearTo_succ, fold_mem, innerTo_mem, ih]
    constructor
    · rintro ((⟨⟨i, hi, h⟩, h3⟩ | ⟨h, h3⟩) | ⟨h, h3⟩)
      · exact ⟨⟨i, by omega, h⟩, h3⟩
      · exact ⟨⟨n, by omega, .inl h⟩, h3⟩
      · exact ⟨⟨n, by omega, .inr h⟩, h3⟩
    · rintro ⟨⟨i, hi, h⟩, h3⟩
      by_cases e : i = n
      · subst e
        rcases h with h | h
        · exact .inl (.inr ⟨h, h3⟩)
        · exact .inr ⟨h, h3⟩
      · exact .inl (.inl ⟨⟨i, by omega, h⟩, h3⟩)
end Go.Proofs.YtcmajekdalcjeaaGreat
/-
  Plain mathematics: a word has words of one step; these are words.
-/
namespace Go.Proofs.YtcmajekdalcjeaaGreat
set_option linter.unusedVariables false
theorem near_wok (s y : ByteArray) (h : y ∈ near s) : wok y = true := ((nearTo_mem s y _).1 h).2.2
theorem inr_append (lo hi : Int) (a b : List UInt8) : inr lo hi (a ++ b) = (inr lo hi a && inr lo hi b) := by simp [inr, List.all_append]
theorem inr_sub (lo hi : Int) (a b : List UInt8) (h : ∀ x ∈ a, x ∈ b) (hb : inr lo hi b = true) : inr lo hi a = true := by
  unfold inr at *
  rw [List.all_eq_true] at *
  exact fun x hx => hb x (h x hx)
theorem data_append (a b : ByteArray) : (a ++ b).data.toList = a.data.toList ++ b.data.toList := by simp
theorem data_extract (s : ByteArray) (i j : Nat) : (s.extract i j).data.toList = (s.data.toList.take j).drop i := by
  simp [List.drop_take]
theorem chr_data (c : Nat) : (chr c).data.toList = [UInt8.ofNat c] := rfl
/-- One letter changed: as long, and a word. -/
theorem chg_wok (s : ByteArray) (c : Nat) (hs : wok s = true) (hc : 97 ≤ c ∧ c ≤ 122) : wok (chgT s 0 c) = true := by
  unfold wok at hs ⊢
  simp only [Bool.and_eq_true, decide_eq_true_eq] at hs ⊢
  have hsz : (chgT s 0 c).size = s.size := by
    unfold chgT
    rw [ByteArray.size_append, ByteArray.size_append]
    have : (chr c).size = 1 := rfl
    rw [this]; simp; omega
  refine ⟨by omega, ?_, by omega⟩
  unfold chgT
  rw [data_append, data_append, chr_data, inr_append, inr_append]
  simp only [Bool.and_eq_true]
  refine ⟨⟨?_, ?_⟩, ?_⟩
  · rw [data_extract]; simp [inr]
  · have : (UInt8.ofNat c).toNat = c := by simp; omega
    simp only [inr, List.all_cons, List.all_nil, Bool.and_true, Bool.and_eq_true, decide_eq_true_eq, this]
    omega
  · rw [data_extract]
    exact inr_sub _ _ _ _ (fun x hx => List.mem_of_mem_take (List.mem_of_mem_drop hx)) hs.2.1
theorem chg_first (s : ByteArray) (c : Nat) (hs : 0 < s.size) : (chgT s 0 c).data.toList.head? = some (UInt8.ofNat c) := by
  unfold chgT
  rw [data_append, data_append, chr_data, data_extract]
  simp
theorem near_ne (s : ByteArray) (hs : wok s = true) : near s ≠ [] := by
  have hs0 : 0 < s.size := by
    unfold wok at hs
    simp only [Bool.and_eq_true, decide_eq_true_eq] at hs
    exact hs.1
  have key : ∀ c, c < 26 → chgT s 0 (97 + c) ≠ s → near s ≠ [] := by
    intro c hc hne h0
    have hm : chgT s 0 (97 + c) ∈ near s := by
      unfold near
      rw [nearTo_mem]
      refine ⟨⟨0, by omega, .inl ⟨c, hc, ?_⟩⟩, hne, chg_wok s _ hs (by omega)⟩
      unfold candsC
      rw [if_pos hs0]; simp
    rw [h0] at hm
    cases hm
  by_cases h : chgT s 0 97 = s
  · refine key 1 (by omega) fun h2 => ?_
    have h1 := chg_first s 97 hs0
    have h3 := chg_first s 98 hs0
    rw [h] at h1
    rw [show 97 + 1 = 98 from rfl] at h2
    rw [h2, h1] at h3
    revert h3
    decide
  · exact key 0 (by omega) h
end Go.Proofs.YtcmajekdalcjeaaGreat
