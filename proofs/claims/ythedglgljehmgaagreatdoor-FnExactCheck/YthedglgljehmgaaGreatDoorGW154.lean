/-
  Words of a book, with the places of the entries that make them: models.
-/
import Derived.Test.YthedglgljehmgaaGreatDoorGW131
import Derived.Test.YthedglgljehmgaaGreatDoorGW78
import Derived.Test.YthedglgljehmgaaGreatDoorW150
import Derived.Test.YthedglgljehmgaaGreatDoorW129
import Derived.Deep.RegionHeld3
namespace Go.Proofs.YthedglgljehmgaaGreatDoor
open Go.RowKit
set_option linter.unusedVariables false
theorem bookT_ent {xs : List Aff} {es : List (ByteArray × ByteArray)} (h : bookT xs es = true) {i : Nat} {e : ByteArray × ByteArray} (he : es[i]? = some e) : entT e.1 e.2 = true := by
  simp only [bookT, entsT, Bool.and_eq_true, List.all_eq_true, List.mem_range] at h
  have h1 := h.2.2 i (List.getElem?_eq_some_iff.1 he).1
  unfold entAt at h1
  rw [he] at h1
  simp only [Bool.and_eq_true] at h1
  exact h1.1
theorem bookT_affs {xs : List Aff} {es : List (ByteArray × ByteArray)} (h : bookT xs es = true) : affsT xs = true := by
  simp only [bookT, Bool.and_eq_true] at h
  exact h.1
theorem bookT_len {xs : List Aff} {es : List (ByteArray × ByteArray)} (h : bookT xs es = true) : es.length ≤ 24 := by
  simp only [bookT, entsT, Bool.and_eq_true, decide_eq_true_eq] at h
  exact h.2.1
theorem formsT_asc (xs : List Aff) (st fl : ByteArray) : Asc (formsT xs st fl) := by
  unfold formsT
  split
  · exact formsL_asc xs st fl
  · exact List.Pairwise.nil
theorem formsT_nodup (xs : List Aff) (st fl : ByteArray) : (formsT xs st fl).Nodup :=
  List.Pairwise.imp (fun {a b} (h : tlt a b = true) e => by rw [e, tlt_irrefl] at h; cases h) (formsT_asc xs st fl)
theorem formsT_L {xs : List Aff} {es : List (ByteArray × ByteArray)} (h : bookT xs es = true) {i : Nat} {e : ByteArray × ByteArray} (he : es[i]? = some e) : formsT xs e.1 e.2 = formsL xs e.1 e.2 := by
  unfold formsT
  rw [bookT_affs h, bookT_ent h he]
  rfl
/-- Words with places, of the first entries. -/
def pairsTo (xs : List Aff) (es : List (ByteArray × ByteArray)) : Nat → List (ByteArray × Nat)
  | 0 => []
  | k + 1 => pairsTo xs es k ++ (match es[k]? with | some e => (formsT xs e.1 e.2).map (fun s => (s, k)) | none => [])
def pairsT (xs : List Aff) (es : List (ByteArray × ByteArray)) : List (ByteArray × Nat) := if bookT xs es then pairsTo xs es es.length else []
theorem pairsTo_len (xs : List Aff) (es : List (ByteArray × ByteArray)) : ∀ k, (pairsTo xs es k).length ≤ 100 * k
  | 0 => Nat.zero_le _
  | k + 1 => by
    have ih := pairsTo_len xs es k
    unfold pairsTo
    rw [List.length_append]
    split
    · next e _ =>
      have := (formsT_small xs e.1 e.2).1
      rw [List.length_map]
      omega
    · simp; omega
def hasW (l : List ByteArray) (s : ByteArray) : Bool := l.any (fun x => decide (x = s))
theorem hasW_iff (l : List ByteArray) (s : ByteArray) : hasW l s = true ↔ s ∈ l := by
  unfold hasW
  rw [List.any_eq_true]
  constructor
  · rintro ⟨x, hx, h⟩
    rw [of_decide_eq_true h] at hx
    exact hx
  · intro h
    exact ⟨s, h, decide_eq_true rfl⟩
/-- The places of the entries that make a word, of the first ones. -/
def atTo (xs : List Aff) (es : List (ByteArray × ByteArray)) (s : ByteArray) : Nat → List Nat
  | 0 => []
  | k + 1 => atTo xs es s k ++ (match es[k]? with | some e => if hasW (formsT xs e.1 e.2) s then [k] else [] | none => [])
theorem filter_pairs {l : List ByteArray} (h : l.Nodup) (s : ByteArray) (k : Nat) : ((l.map (fun x => (x, k))).filter (fun p => p.1 = s)).map (fun p => (p.2 : Int)) = if hasW l s then [(k : Int)] else [] := by
  induction l with
  | nil => simp [hasW]
  | cons x xs ih =>
    obtain ⟨h1, h2⟩ := List.nodup_cons.1 h
    have ih := ih h2
    by_cases e : x = s
    · subst e
      have h3 : ¬ hasW xs x = true := fun q => h1 ((hasW_iff xs x).1 q)
      rw [if_neg h3] at ih
      have h4 : hasW (x :: xs) x = true := (hasW_iff _ _).2 (by simp)
      rw [if_pos h4, List.map_cons, List.filter_cons_of_pos (by simp), List.map_cons, ih]
    · have h4 : hasW (x :: xs) s = hasW xs s := by simp [hasW, e]
      rw [h4, ← ih, List.map_cons, List.filter_cons_of_neg (by simpa using e)]
theorem placesOf_pairs (xs : List Aff) (es : List (ByteArray × ByteArray)) (s : ByteArray) : ∀ k, placesOf (pairsTo xs es k) s = (atTo xs es s k).map (fun (n : Nat) => (n : Int))
  | 0 => rfl
  | k + 1 => by
    have ih := placesOf_pairs xs es s k
    unfold placesOf at ih ⊢
    unfold pairsTo atTo
    rw [List.filter_append, List.map_append, ih, List.map_append]
    congr 1
    split
    · next e _ =>
      rw [filter_pairs (formsT_nodup xs e.1 e.2)]
      split <;> rfl
    · rfl
theorem atTo_lt (xs : List Aff) (es : List (ByteArray × ByteArray)) (s : ByteArray) : ∀ k, k ≤ es.length → ∀ n ∈ atTo xs es s k, n < es.length
  | 0, _, n, h => by cases h
  | k + 1, hk, n, h => by
    unfold atTo at h
    rw [List.mem_append] at h
    rcases h with h | h
    · exact atTo_lt xs es s k (by omega) n h
    · split at h
      · split at h
        · rw [List.mem_singleton] at h; omega
        · cases h
      · cases h
theorem atTo_len (xs : List Aff) (es : List (ByteArray × ByteArray)) (s : ByteArray) : ∀ k, (atTo xs es s k).length ≤ k
  | 0 => Nat.le_refl _
  | k + 1 => by
    have ih := atTo_len xs es s k
    unfold atTo
    rw [List.length_append]
    split
    · split <;> simp <;> omega
    · simp; omega
/-- The stems that make a word, of the first entries. -/
def stemsTo (xs : List Aff) (es : List (ByteArray × ByteArray)) (s : ByteArray) : Nat → List ByteArray
  | 0 => []
  | k + 1 => stemsTo xs es s k ++ (match es[k]? with | some e => if hasW (formsT xs e.1 e.2) s then [e.1] else [] | none => [])
def stemsT (xs : List Aff) (es : List (ByteArray × ByteArray)) (s : ByteArray) : List ByteArray := if bookT xs es then stemsTo xs es s es.length else []
def stemAt (es : List (ByteArray × ByteArray)) (n : Nat) : ByteArray := match es[n]? with | some e => e.1 | none => ByteArray.empty
theorem stemsTo_at (xs : List Aff) (es : List (ByteArray × ByteArray)) (s : ByteArray) : ∀ k, k ≤ es.length → stemsTo xs es s k = (atTo xs es s k).map (stemAt es)
  | 0, _ => rfl
  | k + 1, hk => by
    have ih := stemsTo_at xs es s k (by omega)
    unfold stemsTo atTo
    rw [List.map_append, ← ih]
    congr 1
    have he : es[k]? = some es[k] := List.getElem?_eq_getElem (by omega)
    rw [he]
    dsimp only
    split
    · simp [stemAt, he]
    · rfl
theorem stemsTo_len (xs : List Aff) (es : List (ByteArray × ByteArray)) (s : ByteArray) (k : Nat) (hk : k ≤ es.length) : (stemsTo xs es s k).length ≤ k := by
  rw [stemsTo_at xs es s k hk, List.length_map]
  exact atTo_len xs es s k
/-- A word is known, of the first entries. -/
def knowsTo (xs : List Aff) (es : List (ByteArray × ByteArray)) (s : ByteArray) : Nat → Bool
  | 0 => false
  | k + 1 => knowsTo xs es s k || (match es[k]? with | some e => hasW (formsT xs e.1 e.2) s | none => false)
def knowsT (xs : List Aff) (es : List (ByteArray × ByteArray)) (s : ByteArray) : Bool := bookT xs es && knowsTo xs es s es.length
theorem knowsTo_at (xs : List Aff) (es : List (ByteArray × ByteArray)) (s : ByteArray) : ∀ k, knowsTo xs es s k = decide (0 < (atTo xs es s k).length)
  | 0 => rfl
  | k + 1 => by
    have ih := knowsTo_at xs es s k
    unfold knowsTo atTo
    rw [ih, List.length_append]
    split
    · next e _ =>
      by_cases h : hasW (formsT xs e.1 e.2) s = true <;> simp [h]
    · simp
/-- All words, of the first entries, as they are put in order. -/
def wordsTo (xs : List Aff) (es : List (ByteArray × ByteArray)) : Nat → List ByteArray
  | 0 => []
  | k + 1 => (match es[k]? with | some e => formsT xs e.1 e.2 | none => []).foldl put (wordsTo xs es k)
def wordsT (xs : List Aff) (es : List (ByteArray × ByteArray)) : List ByteArray := if bookT xs es then wordsTo xs es es.length else []
theorem mem_puts : ∀ (l o : List ByteArray) (x : ByteArray), x ∈ l.foldl put o ↔ x ∈ o ∨ x ∈ l
  | [], o, x => by simp
  | y :: l, o, x => by
    rw [List.foldl_cons, mem_puts l, mem_put]
    simp only [List.mem_cons]
    constructor
    · rintro ((h | h) | h)
      · exact .inr (.inl h)
      · exact .inl h
      · exact .inr (.inr h)
    · rintro (h | h | h)
      · exact .inl (.inr h)
      · exact .inl (.inl h)
      · exact .inr h
theorem puts_len : ∀ (l o : List ByteArray), (l.foldl put o).length ≤ o.length + l.length
  | [], o => Nat.le_refl _
  | y :: l, o => by
    have h1 := puts_len l (put o y)
    have h2 := put_len o y
    rw [List.foldl_cons, List.length_cons]
    omega
theorem puts_asc : ∀ (l o : List ByteArray), Asc o → Asc (l.foldl put o)
  | [], o, h => h
  | y :: l, o, h => puts_asc l _ (asc_put o y h)
theorem mem_wordsTo (xs : List Aff) (es : List (ByteArray × ByteArray)) (s : ByteArray) : ∀ k, s ∈ wordsTo xs es k ↔ knowsTo xs es s k = true
  | 0 => by simp [wordsTo, knowsTo]
  | k + 1 => by
    have ih := mem_wordsTo xs es s k
    unfold wordsTo knowsTo
    rw [mem_puts, ih, Bool.or_eq_true]
    split
    · rw [hasW_iff]
    · simp
theorem wordsTo_len (xs : List Aff) (es : List (ByteArray × ByteArray)) : ∀ k, (wordsTo xs es k).length ≤ 100 * k
  | 0 => Nat.zero_le _
  | k + 1 => by
    have ih := wordsTo_len xs es k
    unfold wordsTo
    have h1 := puts_len (match es[k]? with | some e => formsT xs e.1 e.2 | none => []) (wordsTo xs es k)
    have h2 : (match es[k]? with | some e => formsT xs e.1 e.2 | none => []).length ≤ 100 := by
      split
      · exact (formsT_small xs _ _).1
      · simp
    omega
theorem wordsTo_asc (xs : List Aff) (es : List (ByteArray × ByteArray)) : ∀ k, Asc (wordsTo xs es k)
  | 0 => List.Pairwise.nil
  | k + 1 => puts_asc _ _ (wordsTo_asc xs es k)
theorem knowsTo_small {xs : List Aff} {es : List (ByteArray × ByteArray)} {s : ByteArray} : ∀ {k}, knowsTo xs es s k = true → s.size ≤ 12
  | 0, h => by cases h
  | k + 1, h => by
    unfold knowsTo at h
    rw [Bool.or_eq_true] at h
    rcases h with h | h
    · exact knowsTo_small h
    · split at h
      · exact (formsT_small xs _ _).2 s ((hasW_iff _ _).1 h)
      · cases h
theorem wordsT_small (xs : List Aff) (es : List (ByteArray × ByteArray)) : (wordsT xs es).length ≤ 2400 ∧ ∀ x ∈ wordsT xs es, x.size ≤ 12 := by
  unfold wordsT
  split
  · next h =>
    have h1 := bookT_len h
    have h2 := wordsTo_len xs es es.length
    exact ⟨by omega, fun x hx => knowsTo_small ((mem_wordsTo xs es x _).1 hx)⟩
  · exact ⟨by simp, fun x hx => by cases hx⟩
end Go.Proofs.YthedglgljehmgaaGreatDoor
/-
  spec.l2In, spec.l2Words, spec.BookKnows, spec.BookStems.
-/
namespace Go.Proofs.YthedglgljehmgaaGreatDoor
open Go.RowKit
set_option linter.unusedVariables false
theorem hasW_take {l : List ByteArray} {k : Nat} {x : ByteArray} (hx : l[k]? = some x) (s : ByteArray) : hasW (l.take (k + 1)) s = (hasW (l.take k) s || decide (x = s)) := by
  unfold hasW
  rw [List.take_add_one, hx]
  simp
theorem hasW_mem {l : List ByteArray} {k : Nat} {x : ByteArray} (hx : l[k]? = some x) : hasW l x = true := (hasW_iff l x).2 (List.mem_of_getElem? hx)
theorem toList_inj {a b : ByteArray} (h : a.toList = b.toList) : a = b := by
  rw [ByteArray.toList_eq, ByteArray.toList_eq] at h
  cases a; cases b
  simp only [ByteArray.mk.injEq]
  exact Array.toList_inj.1 h
theorem row_none (w : World) : TextRow (w.alloc (.cells #[] 9)) (.slice (some ⟨w.heap.size, 0, none⟩) 0 0) [] :=
  ⟨_, 0, rfl, Nat.le_refl _, fun i s hs => by simp at hs, _, heap_alloc_last _ _⟩
set_option maxHeartbeats 1000000 in
theorem l2In_any (w : World) (v : Value) (ss : List ByteArray) (s : ByteArray) (h : TextsAt w v ss) :
    Calls Tryz.prog 32 #[v, .string s] w fun e w' => e = .returned (.bool (hasW ss s)) ∧ w' = w := by
  obtain ⟨a, cap, rfl, hc, hm⟩ := h.form
  have HS : Hid (TextsAt w (.slice a ss.length cap) ss) := h
  clear h
  unfold maxLen at hm
  go_enter Tryz.func32, Tryz.ntmps32
  go_wp2
  go_loop [5] (fun i => ∃ k : Nat, k ≤ ss.length ∧ i = .int .i64 k ∧ hasW (ss.take k) s = false) (fun i => ss.length - (intOf i).toNat)
  case atStart => exact ⟨0, Nat.zero_le _, rfl, rfl⟩
  case round =>
    obtain ⟨k, hk, rfl, hr⟩ := hrel
    have HR : Hid (hasW (ss.take k) s = false) := hr
    clear hr
    by_cases hlt : k < ss.length
    · obtain ⟨b, off, cap', x, hv, hbl, hx, hxf, e0⟩ := HS.out.at hlt
      cases hv
      have HX : Hid (ss[k]? = some x) := hx
      clear hx hxf
      by_cases hq : x.toList = s.toList
      · have HQ : Hid (x = s) := toList_inj hq
        go_wp2
        go_ret
        exact ⟨ret_bool (by rw [← HQ.out, hasW_mem HX.out]), rfl⟩
      · have HQ : Hid (¬ x = s) := fun e => hq (by rw [e])
        have hq' : (x.toList == s.toList) = false := by simpa using hq
        go_wp2
        go_round
        case rel => exact ⟨k + 1, by omega, by go_num, by rw [hasW_take HX.out, HR.out]; simpa using HQ.out⟩
        case measure => simp [intOf]; omega
    · have hke : k = ss.length := by omega
      subst hke
      go_wp2
      go_ret
      exact ⟨ret_bool (by have := HR.out; rw [List.take_length] at this; rw [this]), rfl⟩
set_option maxRecDepth 100000 in
set_option maxHeartbeats 2000000 in
theorem l2Words_any (w : World) (va ve : Value) (xs : List Aff) (es : List (ByteArray × ByteArray)) (ha : AffsAt w va xs) (he : EntsAt w ve es) (hbk : bookT xs es = true) :
    Calls Tryz.prog 29 #[.agg #[va, ve]] w fun e w' => ∃ v, e = .returned v ∧ TextRow w' v (wordsTo xs es es.length) ∧ Below w.heap.size w w' := by
  obtain ⟨a, cap, rfl, hc, hm⟩ := ha.form
  obtain ⟨a', cap', rfl, hc', hm'⟩ := he.form
  have HA : Hid (AffsAt w (.slice a xs.length cap) xs) := ha
  have HE : Hid (EntsAt w (.slice a' es.length cap') es) := he
  have HBK : Hid (bookT xs es = true) := hbk
  have hl24 := bookT_len hbk
  have HOK : Hid ((∀ a ∈ xs, affOk a = true) ∧ xs.length ≤ 8) := affsT_all (bookT_affs hbk)
  have hx8 := HOK.out.2
  clear ha he hbk
  obtain ⟨w0, hw0⟩ : ∃ w0, (w.alloc (.cells #[.slice a xs.length cap, .slice a' es.length cap'] 26)).alloc (.cells #[] 9) = w0 := ⟨_, rfl⟩
  have HB0 : Hid (Below w.heap.size w w0) := by rw [← hw0]; exact ((Below.refl _ _).alloc (Nat.le_refl _) _).alloc (by simp <;> omega) _
  have HT0 : Hid (TextRow w0 (.slice (some ⟨w.heap.size + 1, 0, none⟩) 0 0) []) := by
    rw [← hw0]
    have := row_none (w.alloc (.cells #[.slice a xs.length cap, .slice a' es.length cap'] 26))
    rw [World.size_alloc] at this
    exact this
  have c0 : w0.cell? ⟨w.heap.size, 0, none⟩ = some (.slice a xs.length cap) := by rw [← hw0]; simp [go_sem]
  have c1 : w0.cell? ⟨w.heap.size, 1, none⟩ = some (.slice a' es.length cap') := by rw [← hw0]; simp [go_sem]
  have C0 : Hid (w0.cell? ⟨w.heap.size, 0, none⟩ = some (.slice a xs.length cap)) := c0
  have C1 : Hid (w0.cell? ⟨w.heap.size, 1, none⟩ = some (.slice a' es.length cap')) := c1
  have hz0 : w.heap.size < w0.heap.size := by rw [← hw0]; simp; omega
  clear c0 c1
  go_enter Tryz.func29, Tryz.ntmps29
  go_wp2
  clear hw0
  go_loopw [3, 4] (fun o i wr => ∃ (k : Nat) (v0 : Value), k ≤ es.length ∧ o = v0 ∧ i = .int .i64 k ∧ TextRow wr v0 (wordsTo xs es k) ∧ Below w0.heap.size w0 wr) (fun _ i _ => es.length - (intOf i).toNat)
  case atStart => exact ⟨0, _, Nat.zero_le _, rfl, rfl, HT0.out, Below.refl _ _⟩
  case round =>
    obtain ⟨k, v0, hk, hov, rfl, ht, hb⟩ := hrel
    obtain ⟨g0, cp0, hv0, -⟩ := id ht
    subst hv0
    subst hov
    have HT : Hid (TextRow wr (.slice (some ⟨g0, 0, none⟩) (wordsTo xs es k).length cp0) (wordsTo xs es k)) := ht
    have HB : Hid (Below w0.heap.size w0 wr) := hb
    have hzr := hb.size
    clear ht
    have d1 := (HB.out.cell (p := ⟨w.heap.size, 1, none⟩) hz0).trans C1.out
    clear hb
    by_cases hlt : k < es.length
    · have HBW : Hid (Below w.heap.size w wr) := HB0.out.trans (HB.out.mono HB0.out.size)
      obtain ⟨b, off, cap2, x, hv, hbl, hx, hxf, e0, e1⟩ := (HE.out.below HBW.out).at hlt
      cases hv
      obtain ⟨st, fl⟩ := x
      have HX : Hid (es[k]? = some (st, fl)) := hx
      have HEN : Hid (entT st fl = true) := bookT_ent HBK.out hx
      have HWK : Hid (wok st = true) := by have := HEN.out; simp only [entT, Bool.and_eq_true] at this; exact this.1
      simp only at e0 e1 hxf
      have HXF : Hid (st.size ≤ maxLen ∧ fl.size ≤ maxLen) := hxf
      have HAr : Hid (AffsAt wr (.slice a xs.length cap) xs) := HA.out.below HBW.out
      have d0 := (HB.out.cell (p := ⟨w.heap.size, 0, none⟩) hz0).trans C0.out
      have i0 : (0 : Int) ≤ (k : Int) := by omega
      have i1 : (k : Int) < (es.length : Int) := by omega
      have hzw : w.heap.size < wr.heap.size := Nat.lt_of_lt_of_le hz0 hzr
      clear hx hxf
      go_wp2_with fail
      go_region_held3 (fun w' => w'.cell? ⟨w.heap.size, 0, none⟩ = some (.slice a xs.length cap) ∧ w'.cell? ⟨w.heap.size, 1, none⟩ = some (.slice (some ⟨b, off, none⟩) es.length cap') ∧ w'.cell? ⟨b, off + k * 2, none⟩ = some (.string st) ∧ w'.cell? ⟨b, off + k * 2 + 1, none⟩ = some (.string fl)) (go_keep)
        ((go_at_call 59; refine (l2Forms_any _ _ xs st fl (HAr.out.below (Below.refl _ _).drew) HOK.out.1 HWK.out hx8 HXF.out.2).mono ?_; rintro e w2 ⟨vl, rfl, htl, hb2⟩; have HB2 : Hid (Below wr.heap.size wr w2) := (Below.drew (Below.refl wr.heap.size wr)).trans hb2; have HTL : Hid (TextRow w2 vl (formsL xs st fl)) := htl; have k0 := (HB2.out.cell (p := ⟨w.heap.size, 0, none⟩) hzw).trans d0; have k1 := (HB2.out.cell (p := ⟨w.heap.size, 1, none⟩) hzw).trans d1; have k2 := (HB2.out.cell (p := ⟨b, off + k * 2, none⟩) hbl).trans e0; have k3 := (HB2.out.cell (p := ⟨b, off + k * 2 + 1, none⟩) hbl).trans e1; clear hb2 d0 d1 e0 e1; obtain ⟨gl, cl, rfl, hcl⟩ := htl; clear hcl))
      go_wp2
      have HFL : Hid (formsT xs st fl = formsL xs st fl) := formsT_L HBK.out HX.out
      obtain ⟨fs, hfs⟩ : ∃ fs, formsL xs st fl = fs := ⟨_, rfl⟩
      rw [hfs] at HTL HFL ⊢
      have hfl : fs.length ≤ 100 := by rw [← hfs]; exact formsL_len st fl hx8
      clear hfs
      have hwl := wordsTo_len xs es k
      have HT2 : Hid (TextRow w2 (.slice (some ⟨g0, 0, none⟩) (wordsTo xs es k).length cp0) (wordsTo xs es k)) := HT.out.below HB2.out
      go_loopw [3, 6] (fun o i wi => ∃ (j : Nat) (v1 : Value), j ≤ fs.length ∧ o = v1 ∧ i = .int .i64 j ∧ TextRow wi v1 ((fs.take j).foldl put (wordsTo xs es k)) ∧ Below w2.heap.size w2 wi) (fun _ i _ => fs.length - (intOf i).toNat)
      case atStart => exact ⟨0, _, Nat.zero_le _, rfl, rfl, HT2.out, Below.refl _ _⟩
      case round =>
        rename World => wi
        obtain ⟨j, v1, hj, hov, rfl, ht, hb⟩ := hrel
        obtain ⟨g1, cp1, hv1, -⟩ := id ht
        subst hv1
        subst hov
        have HTi : Hid (TextRow wi (.slice (some ⟨g1, 0, none⟩) ((fs.take j).foldl put (wordsTo xs es k)).length cp1) ((fs.take j).foldl put (wordsTo xs es k))) := ht
        have HBi : Hid (Below w2.heap.size w2 wi) := hb
        clear hb ht
        by_cases hlj : j < fs.length
        · obtain ⟨s, hs⟩ : ∃ s, fs[j]? = some s := ⟨_, List.getElem?_eq_getElem hlj⟩
          have HSS : Hid ((fs.take (j + 1)).foldl put (wordsTo xs es k) = put ((fs.take j).foldl put (wordsTo xs es k)) s) := by
            show List.foldl _ _ _ = _
            rw [List.take_add_one, hs, List.foldl_append]
            rfl
          have hpl := puts_len (fs.take j) (wordsTo xs es k)
          have htk : (fs.take j).length = j := by rw [List.length_take]; omega
          have d2 : wi.cell? ⟨gl, 0 + j, none⟩ = some (.string s) := by
            obtain ⟨g', cp', hv', -, hcc, -⟩ := HTL.out.below HBi.out
            simp only [Value.slice.injEq, Option.some.injEq, Addr.mk.injEq, and_true, true_and] at hv'
            obtain ⟨rfl, -⟩ := hv'
            rw [Nat.zero_add]
            exact hcc j s hs
          have d2' : wi.cell? ⟨gl, j, none⟩ = some (.string s) := by rw [Nat.zero_add] at d2; exact d2
          clear hs
          go_wp2_with fail
          refine (l1Put_any _ _ _ s HTi.out (by omega)).mono ?_
          rintro e w3 ⟨v3, rfl, ht3, hb3⟩
          have HB3 : Hid (Below w2.heap.size w2 w3) := HBi.out.trans (hb3.mono HBi.out.size)
          have HT3 : Hid (TextRow w3 v3 (put ((fs.take j).foldl put (wordsTo xs es k)) s)) := ht3
          obtain ⟨g3, cp3, rfl, -⟩ := ht3
          clear hb3 d2 d2'
          go_wp2
          go_roundw
          case rel => exact ⟨j + 1, _, by omega, rfl, by go_num, by rw [HSS.out]; exact HT3.out, HB3.out⟩
          case measure => simp [intOf]; omega
        · have hje : j = fs.length := by omega
          subst hje
          have HWN : Hid (wordsTo xs es (k + 1) = (fs.take fs.length).foldl put (wordsTo xs es k)) := by
            show wordsTo xs es (k + 1) = _
            rw [wordsTo, HX.out, List.take_length]
            dsimp only
            rw [HFL.out]
          go_wp2
          go_roundw
          case rel => exact ⟨k + 1, _, by omega, rfl, by go_num, by rw [HWN.out]; exact HTi.out, HB.out.trans ((HB2.out.trans (HBi.out.mono HB2.out.size)).mono hzr)⟩
          case measure => simp [intOf]; omega
    · have hke : k = es.length := by omega
      subst hke
      go_wp2
      go_ret
      exact ⟨_, rfl, HT.out, HB0.out.trans (HB.out.mono HB0.out.size)⟩
end Go.Proofs.YthedglgljehmgaaGreatDoor
