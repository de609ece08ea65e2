/-
  Clients in one form.
-/
import Derived.Test.YtelpflidgfidcaaW144
namespace Go.Proofs.Ytelpflidgfidcaa
open Go.RowKit
set_option linter.unusedVariables false
set_option maxHeartbeats 1000000 in
theorem heldBook_u (w : World) (v : Value) (k : Nat) (x : List Aff × List (ByteArray × ByteArray)) (h : BookAt w v (bookMk k x)) (hs : BookSm x) (hk : k ≤ 900000000) :
    Calls Try.prog 13 #[v, .int .i64 k] w fun e w' => e = .returned (.int .i64 ((k + bookCnt x : Nat) : Int)) ∧ Below w.heap.size w w' := by
  obtain ⟨va, ve, rfl, ha, he⟩ := h
  obtain ⟨xs, es⟩ := x
  simp only [bookCnt, bookMk, BookSm] at *
  obtain ⟨hs0, hs1⟩ := hs
  have HB0 : Hid (Below w.heap.size w (w.alloc (.cells #[va, ve] 25))) := (Below.refl _ _).alloc (Nat.le_refl _) _
  have HE : Hid (EntsAt w ve (marksE (k + xs.length * 5) es.length)) := he
  have HA : Hid (AffsAt w va (marksA k xs.length)) := ha
  clear ha he
  obtain ⟨k1, hk1⟩ : ∃ K : Nat, k + xs.length * 5 = K := ⟨_, rfl⟩
  rw [hk1] at HE
  have n1 : ¬ ((k1 : Int) < 0) := by omega
  have b1 : k1 ≤ 1000000000 := by omega
  have HK : Hid (k + (xs.length * 5 + es.length * 2) = k1 + es.length * 2) := by show _ = _; omega
  have HK1 : Hid (k + xs.length * 5 = k1) := hk1
  rw [HK.out]
  obtain ⟨k2, hk2⟩ : ∃ K : Nat, k1 + es.length * 2 = K := ⟨_, rfl⟩
  have HK2 : Hid (k1 + es.length * 2 = k2) := hk2
  have n2 : ¬ ((k2 : Int) < 0) := by omega
  rw [hk2]
  clear hk1 hk2
  go_enter Try.func13, Try.ntmps13
  go_wp2_with fail
  refine (cK (heldAffixS_x _ _ k xs (HA.out.below HB0.out) hs0 (by omega)) HK1.out).mono ?_
  rintro e w1 ⟨rfl, hb1⟩
  have HB1 : Hid (Below w.heap.size w w1) := HB0.out.trans (hb1.mono (by simp))
  have c1 : w1.cell? ⟨w.heap.size, 1, none⟩ = some ve := (hb1.cell (p := ⟨w.heap.size, 1, none⟩) (by simp)).trans (by simp [go_sem])
  have hz1 : w.heap.size < w1.heap.size := by have := hb1.size; simp at this; omega
  clear hb1
  go_wp2_with fail
  refine (cK (heldEntryS_x _ _ k1 es (HE.out.below HB1.out) hs1 b1) HK2.out).mono ?_
  rintro e w2 ⟨rfl, hb2⟩
  have HB2 : Hid (Below w.heap.size w w2) := HB1.out.trans (hb2.mono HB1.out.size)
  clear hb2 c1
  go_wp2
  go_ret
  exact ⟨rfl, HB2.out⟩
/-- Clients: a key, up, a number, a book, a file. -/
abbrev ClientM := ByteArray × Bool × Int × (List Aff × List (ByteArray × ByteArray)) × ByteArray
def ClientAt (w : World) (v : Value) (x : ClientM) : Prop := ∃ va ve, v = .agg #[.string x.1, .bool x.2.1, .int .i64 x.2.2.1, va, ve, .string x.2.2.2.2] ∧ AffsAt w va x.2.2.2.1.1 ∧ EntsAt w ve x.2.2.2.1.2
def ClientOwn (lo hi : Nat) (w : World) (v : Value) (x : ClientM) : Prop := ∃ va ve, v = .agg #[.string x.1, .bool x.2.1, .int .i64 x.2.2.1, va, ve, .string x.2.2.2.2] ∧ AffsOwn lo hi w va x.2.2.2.1.1 ∧ EntsOwn lo hi w ve x.2.2.2.1.2
def ClientSm (x : ClientM) : Prop := BookSm x.2.2.2.1
def clientCnt (x : ClientM) : Nat := bookCnt x.2.2.2.1
def clientMk (k : Nat) (x : ClientM) : ClientM := (x.1, x.2.1, x.2.2.1, bookMk k x.2.2.2.1, x.2.2.2.2)
theorem ClientAt.form2 {w : World} {v : Value} {x : ClientM} (h : ClientAt w v x) : ∃ s b n a l c a' l' c' s', v = .agg #[.string s, .bool b, .int .i64 n, .slice a l c, .slice a' l' c', .string s'] := by
  obtain ⟨va, ve, rfl, h1, h2⟩ := h
  obtain ⟨a, c, rfl, _⟩ := h1.form
  obtain ⟨a', c', rfl, _⟩ := h2.form
  exact ⟨_, _, _, _, _, _, _, _, _, _, rfl⟩
theorem ClientAt.below {w w' : World} {v : Value} {x : ClientM} (h : ClientAt w v x) (hb : Below w.heap.size w w') : ClientAt w' v x := by
  obtain ⟨va, ve, hv, h1, h2⟩ := h
  exact ⟨va, ve, hv, h1.below hb, h2.below hb⟩
theorem ClientOwn.at {lo hi : Nat} {w : World} {v : Value} {x : ClientM} (h : ClientOwn lo hi w v x) : ClientAt w v x := by
  obtain ⟨va, ve, hv, h1, h2⟩ := h
  exact ⟨va, ve, hv, h1.at, h2.at⟩
theorem ClientOwn.below {lo hi : Nat} {w w' : World} {v : Value} {x : ClientM} (h : ClientOwn lo hi w v x) (hb : Below w.heap.size w w') : ClientOwn lo hi w' v x := by
  obtain ⟨va, ve, hv, h1, h2⟩ := h
  exact ⟨va, ve, hv, h1.below hb, h2.below hb⟩
theorem ClientOwn.wr {lo hi l h' : Nat} {w w' : World} {v : Value} {x : ClientM} (h : ClientOwn lo hi w v x) (hw : Wr l h' w w') (hl : h' ≤ lo) : ClientOwn lo hi w' v x := by
  obtain ⟨va, ve, hv, h1, h2⟩ := h
  exact ⟨va, ve, hv, h1.wr hw hl, h2.wr hw hl⟩
set_option maxHeartbeats 1000000 in
theorem eqClient_u (w : World) (v u : Value) (x : ClientM) (h : ClientAt w v x) (h' : ClientAt w u x) :
    Calls Try.prog 6 #[v, u] w fun e w' => e = .returned (.bool true) ∧ Below w.heap.size w w' := by
  obtain ⟨va, ve, rfl, h1, h2⟩ := h
  obtain ⟨ua, ue, rfl, h1', h2'⟩ := h'
  obtain ⟨a, c, rfl, -⟩ := h1.form
  obtain ⟨a', c', rfl, -⟩ := h2.form
  obtain ⟨b, d, rfl, -⟩ := h1'.form
  obtain ⟨b', d', rfl, -⟩ := h2'.form
  obtain ⟨key, up, n, ⟨xs, es⟩, fl⟩ := x
  dsimp only at *
  have HB0 : Hid (Below w.heap.size w ((w.alloc (.cells #[.string key, .bool up, .int .i64 n, .slice a xs.length c, .slice a' es.length c', .string fl] 27)).alloc (.cells #[.string key, .bool up, .int .i64 n, .slice b xs.length d, .slice b' es.length d', .string fl] 27))) := ((Below.refl _ _).alloc (Nat.le_refl _) _).alloc (by simp <;> omega) _
  have HA : Hid (BookAt w (.agg #[.slice a xs.length c, .slice a' es.length c']) (xs, es)) := ⟨_, _, rfl, h1, h2⟩
  have HU : Hid (BookAt w (.agg #[.slice b xs.length d, .slice b' es.length d']) (xs, es)) := ⟨_, _, rfl, h1', h2'⟩
  clear h1 h2 h1' h2'
  go_enter Try.func6, Try.ntmps6
  go_wp2_with fail
  refine (eqBook_u _ _ _ (xs, es) (HA.out.below HB0.out) (HU.out.below HB0.out)).mono ?_
  rintro e w1 ⟨rfl, hb1⟩
  have HB1 : Hid (Below w.heap.size w w1) := HB0.out.trans (hb1.mono HB0.out.size)
  have c1 : w1.cell? ⟨w.heap.size, 5, none⟩ = some (.string fl) := (hb1.cell (p := ⟨w.heap.size, 5, none⟩) (by simp <;> omega)).trans (by simp [go_sem])
  have c2 : w1.cell? ⟨w.heap.size + 1, 5, none⟩ = some (.string fl) := (hb1.cell (p := ⟨w.heap.size + 1, 5, none⟩) (by simp <;> omega)).trans (by simp [go_sem])
  clear hb1
  go_wp2
  go_ret
  exact ⟨rfl, HB1.out⟩
set_option maxHeartbeats 1000000 in
theorem markClient_u (lo hi k : Nat) (w : World) (v : Value) (x : ClientM) (h : ClientOwn lo hi w v x) (hs : ClientSm x) (hk : k ≤ 10000000000) (hlo : hi ≤ w.heap.size) (hlh : lo ≤ hi) :
    Calls Try.prog 7 #[v, .int .i64 k] w fun e w' => e = .returned (.int .i64 ((k + clientCnt x : Nat) : Int)) ∧ ClientOwn lo hi w' v (clientMk k x) ∧ Wr lo hi w w' := by
  obtain ⟨va, ve, rfl, h1, h2⟩ := h
  obtain ⟨a, c, rfl, -⟩ := h1.at.form
  obtain ⟨a', c', rfl, -⟩ := h2.at.form
  obtain ⟨key, up, n, ⟨xs, es⟩, fl⟩ := x
  dsimp only [clientCnt, clientMk, ClientSm] at *
  have hlo2 : lo ≤ w.heap.size := by omega
  have HB0 : Hid (Below w.heap.size w (w.alloc (.cells #[.string key, .bool up, .int .i64 n, .slice a xs.length c, .slice a' es.length c', .string fl] 27))) := (Below.refl _ _).alloc (Nat.le_refl _) _
  have HA : Hid (BookOwn lo hi w (.agg #[.slice a xs.length c, .slice a' es.length c']) (xs, es)) := ⟨_, _, rfl, h1, h2⟩
  have HS : Hid (BookSm (xs, es)) := hs
  clear h1 h2 hs
  go_enter Try.func7, Try.ntmps7
  go_wp2_with fail
  refine (markBook_u lo hi k _ _ (xs, es) (HA.out.below HB0.out) HS.out hk (by simp; omega) hlh).mono ?_
  rintro e w1 ⟨rfl, ho, hw⟩
  have HO : Hid (BookOwn lo hi w1 (.agg #[.slice a xs.length c, .slice a' es.length c']) (bookMk k (xs, es))) := ho
  have HW : Hid (Wr lo hi w w1) := (Wr.of_below HB0.out hlo2).trans hw
  clear ho hw
  go_wp2
  go_ret
  obtain ⟨va, ve, hv, o1, o2⟩ := HO.out
  simp only [Value.agg.injEq, Array.mk.injEq, List.cons.injEq, and_true] at hv
  obtain ⟨rfl, rfl⟩ := hv
  exact ⟨rfl, ⟨_, _, rfl, o1, o2⟩, HW.out⟩
set_option maxHeartbeats 1000000 in
theorem heldClient_u (w : World) (v : Value) (k : Nat) (x : ClientM) (h : ClientAt w v (clientMk k x)) (hs : ClientSm x) (hk : k ≤ 900000000) :
    Calls Try.prog 8 #[v, .int .i64 k] w fun e w' => e = .returned (.int .i64 ((k + clientCnt x : Nat) : Int)) ∧ Below w.heap.size w w' := by
  obtain ⟨va, ve, rfl, h1, h2⟩ := h
  obtain ⟨a, c, rfl, -⟩ := h1.form
  obtain ⟨a', c', rfl, -⟩ := h2.form
  obtain ⟨key, up, n, ⟨xs, es⟩, fl⟩ := x
  dsimp only [clientCnt, clientMk, ClientSm] at *
  have HA : Hid (BookAt w (.agg #[.slice a (bookMk k (xs, es)).1.length c, .slice a' (bookMk k (xs, es)).2.length c']) (bookMk k (xs, es))) := ⟨_, _, rfl, h1, h2⟩
  have HS : Hid (BookSm (xs, es)) := hs
  obtain ⟨l1, e1⟩ : ∃ l, (bookMk k (xs, es)).1.length = l := ⟨_, rfl⟩
  obtain ⟨l2, e2⟩ : ∃ l, (bookMk k (xs, es)).2.length = l := ⟨_, rfl⟩
  rw [e1, e2] at HA ⊢
  have HB0 : Hid (Below w.heap.size w (w.alloc (.cells #[.string key, .bool up, .int .i64 n, .slice a l1 c, .slice a' l2 c', .string fl] 27))) := (Below.refl _ _).alloc (Nat.le_refl _) _
  obtain ⟨k2, hk2⟩ : ∃ K : Nat, k + bookCnt (xs, es) = K := ⟨_, rfl⟩
  have HK2 : Hid (k + bookCnt (xs, es) = k2) := hk2
  have n2 : ¬ ((k2 : Int) < 0) := by omega
  rw [hk2]
  clear h1 h2 hs e1 e2 hk2
  go_enter Try.func8, Try.ntmps8
  go_wp2_with fail
  refine (cK (heldBook_u _ _ k (xs, es) (HA.out.below HB0.out) HS.out hk) HK2.out).mono ?_
  rintro e w1 ⟨rfl, hb1⟩
  have HB1 : Hid (Below w.heap.size w w1) := HB0.out.trans (hb1.mono (by simp))
  clear hb1
  go_wp2
  go_ret
  exact ⟨rfl, HB1.out⟩
/-- A key. -/
def keyT (s : ByteArray) : Bool := if h : 1 ≤ s.size then decide (s.size ≤ 64) && ((s[s.size - 1].toNat : Int) != 0) else false
theorem keyT_none {s : ByteArray} (h : ¬ 1 ≤ s.size) : keyT s = false := dif_neg h
theorem keyT_long {s : ByteArray} (h : 64 < s.size) : keyT s = false := by
  have h1 : 1 ≤ s.size := by omega
  have h2 : ¬ s.size ≤ 64 := by omega
  simp [keyT, h1, h2]
theorem keyT_in {s : ByteArray} (h : 1 ≤ s.size) (h2 : s.size ≤ 64) (hh : s.size - 1 < s.size) : keyT s = ((s[s.size - 1].toNat : Int) != 0) := by
  simp [keyT, h, h2]
theorem listNil {s : ByteArray} (h : ¬ 1 ≤ s.size) : s.toList = [] := by
  rw [ByteArray.toList_eq]
  have : s.data.toList.length = s.size := rfl
  exact List.length_eq_zero_iff.1 (by omega)
theorem listSome {s : ByteArray} (h : 1 ≤ s.size) : ¬ s.toList = [] := by
  rw [ByteArray.toList_eq]
  intro e
  have h1 : s.data.toList.length = s.size := rfl
  rw [e] at h1
  simp at h1
  omega
def newT (s : ByteArray) : ClientM := if keyT s then (s, true, 0, ([], []), ByteArray.empty) else (ByteArray.empty, false, 0, ([], []), ByteArray.empty)
theorem newT_small (s : ByteArray) : ClientSm (newT s) := by
  unfold newT ClientSm BookSm
  split <;> simp
theorem nilBook (w : World) : AffsAt w (.slice none 0 0) [] ∧ EntsAt w (.slice none 0 0) [] := by
  refine ⟨?_, ?_⟩
  · exact ⟨none, 0, rfl, Nat.le_refl _, Nat.zero_le _, fun i x hx => by simp at hx, fun hn => absurd rfl hn⟩
  · exact ⟨none, 0, rfl, Nat.le_refl _, Nat.zero_le _, fun i x hx => by simp at hx, fun hn => absurd rfl hn⟩
theorem nilOwn (lo hi : Nat) (w : World) : AffsOwn lo hi w (.slice none 0 0) [] ∧ EntsOwn lo hi w (.slice none 0 0) [] := by
  refine ⟨⟨⟨none, 0, rfl, Nat.le_refl _, Nat.zero_le _, fun hn => absurd rfl hn⟩, fun i x hx => by simp at hx⟩, ⟨⟨none, 0, rfl, Nat.le_refl _, Nat.zero_le _, fun hn => absurd rfl hn⟩, fun i x hx => by simp at hx⟩⟩
theorem newClient {lo hi : Nat} (w : World) (s : ByteArray) (b : Bool) (h : keyT s = b) : ClientOwn lo hi w (bif b then .agg #[.string s, .bool true, .int .i64 0, .slice none 0 0, .slice none 0 0, .string ⟨#[]⟩] else .agg #[.string ⟨#[]⟩, .bool false, .int .i64 0, .slice none 0 0, .slice none 0 0, .string ⟨#[]⟩]) (newT s) := by
  unfold newT
  cases b <;> simp only [h, if_true, if_false, cond_true, cond_false, Bool.false_eq_true] <;> exact ⟨_, _, rfl, (nilOwn lo hi w).1, (nilOwn lo hi w).2⟩
end Go.Proofs.Ytelpflidgfidcaa
