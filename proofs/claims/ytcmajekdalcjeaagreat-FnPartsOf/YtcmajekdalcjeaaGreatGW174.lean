/-
  Drawn books.
-/
import Derived.Test.YtcmajekdalcjeaaGreatGW172
import Derived.Test.YtcmajekdalcjeaaGreatW13
import Derived.Test.YtcmajekdalcjeaaGreatM27
import Derived.Test.YtcmajekdalcjeaaGreatGW30
import Derived.Deep.RegionLaw
namespace Go.Proofs.YtcmajekdalcjeaaGreat
open Go.RowKit
set_option linter.unusedVariables false
theorem textRow_kept {w w' : World} {v : Value} {ss : List ByteArray} {blk p : Nat} (h : TextRow w v ss) (hr : RdAt w blk p) (hk : Kept blk w w') : TextRow w' v ss := by
  obtain ⟨g, cap, hv, hc, hcell, cur, hcur⟩ := h
  have hne : g ≠ blk := by
    intro e
    subst e
    obtain ⟨a, len, cap', h1, _⟩ := hr
    rw [hcur] at h1
    simp at h1
  have hb := hk.block g (lt_of_block hcur) hne
  exact ⟨g, cap, hv, hc, fun i s hs => (World.cell?_of_block (w := w) hb).trans (hcell i s hs), cur, hb.trans hcur⟩
/-- A 'w' and a letter. -/
def wl (j : Nat) : ByteArray := ⟨#[119]⟩ ++ ⟨#[UInt8.ofNat (97 + j)]⟩
theorem wl_size (j : Nat) : (wl j).size = 2 := rfl
theorem wl_inj {i j : Nat} (hi : i < 150) (hj : j < 150) (h : wl i = wl j) : i = j := by
  have h1 : (wl i).data.toList = (wl j).data.toList := by rw [h]
  simp [wl] at h1
  have h2 := congrArg UInt8.toNat h1
  simp at h2
  omega
theorem wl_noW (j : Nat) : ¬ noW (wl j) := fun h => h 119 (by simp [wl]) rfl
theorem put_new {l : List ByteArray} {s : ByteArray} (h : s ∉ l) : (put l s).length = l.length + 1 := by
  induction l with
  | nil => rfl
  | cons x xs ih =>
    simp only [List.mem_cons, not_or] at h
    unfold put
    split
    · simp [ih h.2]
    · rw [if_neg (fun e => h.1 e.symm)]
      rfl
def lenOf : Value → Nat
  | .slice _ n _ => n
  | _ => 0
theorem conv_wl (d b : Nat) (x : Int) (hx : x = 97 + (d : Int)) (wx : World) (h : wx.cell? ⟨b, 0, none⟩ = some (.int .u8 x)) :
    (convert 22 9 (.slice (some ⟨b, 0, none⟩) 1 1)).run Tryz.prog wx = .ok (.string ⟨#[UInt8.ofNat (97 + d)]⟩) wx := by
  subst hx
  have h1 := run_convert_bytes_arg (P := Tryz.prog) wx 22 5 Tryz.underlying22 Tryz.underlying5 b 0 1 1 [97 + (d : Int)] rfl (fun i hi => by
    have : i = 0 := by omega
    subst this
    exact h) 9 Tryz.underlying9
  rw [h1]
  have e : (97 + (d : Int)).toNat = 97 + d := by omega
  simp [strOfNums, e]
theorem kept_drew {blk : Nat} {w w' : World} (h : Kept blk w.drew w') : Kept blk w w' := ⟨h.os, h.tape, h.output, h.size, h.block⟩
theorem box_past {w : World} {o : Obj} {b : Nat} {x : Obj} (h : w.heap[b]? = some x) : (w.alloc o).heap[b]? = some x := (((Below.refl w.heap.size w).alloc (Nat.le_refl _) o).block b (lt_of_block h)).trans h
theorem rd_past {w : World} {o : Obj} {blk q : Nat} (h : RdAt w blk q) : RdAt (w.alloc o) blk q := h.alloc o
theorem owns_past {w : World} {o : Obj} {lo : Nat} {e : TypeId} {s n : Nat} {v : Value} {xs : List Value} (h : w.ownsRow lo e s v n xs) : (w.alloc o).ownsRow lo e s v n xs := h.alloc o
theorem set_box {w : World} {B : Nat} {t : TypeId} {a b : Value} (h : w.heap[B]? = some (.cells #[a, b] t (0, 0))) (v : Value) : (w.setCell ⟨B, 1, none⟩ v).heap[B]? = some (.cells #[a, v] t (0, 0)) := by
  have hlt := lt_of_block h
  unfold World.setCell
  rw [Array.getElem?_modify]
  simp [h]
/-- All blocks but two are kept. -/
def Kept2 (blk B : Nat) (w w' : World) : Prop := w'.os = w.os ∧ w'.tape = w.tape ∧ w'.output = w.output ∧ w.heap.size ≤ w'.heap.size ∧ ∀ k, k < w.heap.size → k ≠ blk → k ≠ B → w'.heap[k]? = w.heap[k]?
theorem Kept2.refl (blk B : Nat) (w : World) : Kept2 blk B w w := ⟨rfl, rfl, rfl, Nat.le_refl _, fun _ _ _ _ => rfl⟩
theorem Kept2.kept {blk B : Nat} {a w w' : World} (h : Kept2 blk B a w) (k : Kept blk w w') : Kept2 blk B a w' :=
  ⟨k.os.trans h.1, k.tape.trans h.2.1, k.output.trans h.2.2.1, Nat.le_trans h.2.2.2.1 k.size, fun i hi h1 h2 => (k.block i (Nat.lt_of_lt_of_le hi h.2.2.2.1) h1).trans (h.2.2.2.2 i hi h1 h2)⟩
theorem Kept2.set {blk B : Nat} {a w : World} (h : Kept2 blk B a w) (i : Nat) (v : Value) : Kept2 blk B a (w.setCell ⟨B, i, none⟩ v) :=
  ⟨h.1, h.2.1, h.2.2.1, by simpa using h.2.2.2.1, fun k hk h1 h2 => (Below.heap_setCell w ⟨B, i, none⟩ v k h2).trans (h.2.2.2.2 k hk h1 h2)⟩
theorem Kept2.grown {blk B lo : Nat} {a w w' : World} {v : Value} {e : TypeId} {s n : Nat} {xs : List Value} (h : Kept2 blk B a w) (ho : w.ownsRow lo e s v n xs) (hlo : a.heap.size ≤ lo) (hg : w.grownBy w' v.ownBlock) : Kept2 blk B a w' := by
  have hs := hg.size
  have hb := hg.block
  obtain ⟨g1, g2, g3, g4, g5⟩ := hg
  exact ⟨g1.trans h.1, g2.trans h.2.1, g3.trans h.2.2.1, Nat.le_trans h.2.2.2.1 hs, fun k hk h1 h2 => (hb k (Nat.lt_of_lt_of_le hk h.2.2.2.1) (fun e => by have := own_block_ge ho k e.symm; omega)).trans (h.2.2.2.2 k hk h1 h2)⟩
theorem k2_past {blk B : Nat} {a w : World} {o : Obj} (h : Kept2 blk B a w) : Kept2 blk B a (w.alloc o) := h.kept (Kept.of_below ((Below.refl _ _).alloc (Nat.le_refl _) o))
theorem owns_kept2 {blk B lo : Nat} {w w' : World} {e t : TypeId} {s n : Nat} {v : Value} {xs : List Value} {bs : Array Value} (h : w.ownsRow lo e s v n xs) (hk : Kept2 blk B w w') (hB : w.heap[B]? = some (.cells bs t (0, 0))) (hb : blk < lo) (ht : e ≠ t) : w'.ownsRow lo e s v n xs := by
  refine ⟨h.1, ?_⟩
  rcases h.2 with h | ⟨g, cap, cur, hv, h1, h2, r⟩
  · exact .inl h
  · have hg : g ≠ B := by
      intro e1
      rw [e1, hB] at h2
      simp at h2
      exact ht h2.2.symm
    exact .inr ⟨g, cap, cur, hv, h1, (hk.2.2.2.2 g (lt_of_block h2) (by omega) hg).trans h2, r⟩
theorem kept_two {blk B : Nat} {a w w' : World} (h : Kept blk a w) (hk : Kept2 blk B w w') (hB : a.heap.size ≤ B) : Kept blk a w' :=
  ⟨hk.1.trans h.os, hk.2.1.trans h.tape, hk.2.2.1.trans h.output, Nat.le_trans h.size hk.2.2.2.1, fun k hk' hn => (hk.2.2.2.2 k (Nat.lt_of_lt_of_le hk' h.size) hn (by omega)).trans (h.block k hk' hn)⟩
theorem info_ent173 : (Tryz.prog.info? 76).map (fun i => (i.zero, i.size, i.bytes)) = some (some (.agg #[.string ⟨#[]⟩, .string ⟨#[]⟩]), 2, 32) := by kernel_rfl
set_option maxRecDepth 100000 in
set_option maxHeartbeats 4000000 in
theorem l13Book_any (w : World) (blk p : Nat) (h : RdAt w blk p) (hp : p ≤ 700000) :
    Calls Tryz.prog 37 #[.pointer (some ⟨blk, 0, none⟩)] w fun e w' => ∃ (va ve : Value) (xs : List Aff) (es : List (ByteArray × ByteArray)), e = .returned (.agg #[va, ve]) ∧ w'.ownsRow w.heap.size 71 5 va xs.length (affCells xs) ∧ w'.ownsRow w.heap.size 76 2 ve es.length (entCells es) ∧ xs.length ≤ 4 ∧ es.length ≤ 24 ∧ (∀ a ∈ xs, a.small) ∧ (∀ e ∈ es, e.1.size ≤ 20 ∧ e.2.size ≤ 20) ∧ (∃ q, RdAt w' blk q ∧ q ≤ p + 200) ∧ Kept blk w w' := by
  have hlt := h.lt
  have HR : Hid (RdAt w blk p) := h
  clear h
  obtain ⟨i4, hi4, hz4, hs4, hb4⟩ := info_parts info_ent173
  go_enter Tryz.func37, Tryz.ntmps37
  go_wp2_with fail
  refine (l13Affixes_any _ blk p (HR.out.alloc _) (by omega)).mono ?_
  rintro e wB ⟨va, xs, rfl, hoa, hx4, hxs, ⟨qa, hra, hqa⟩, hka⟩
  obtain ⟨b0, c0, rfl⟩ := owns_form hoa
  have HOA : Hid (wB.ownsRow (w.heap.size + 1) 71 5 (.slice b0 xs.length c0) xs.length (affCells xs)) := owns_lower hoa (by simp)
  have HXS : Hid (∀ a ∈ xs, a.small) := hxs
  have HKA : Hid (Kept blk w wB) := ((Kept.refl blk w).alloc _).trans hka
  have hRb : wB.heap[w.heap.size]? = some (.cells #[.slice none 0 0, .slice none 0 0] 26 (0, 0)) := (hka.block w.heap.size (by simp) (by omega)).trans (heap_alloc_last w _)
  have hzB : w.heap.size < wB.heap.size := by have := hka.size; simp at this; omega
  have HRA : Hid (RdAt wB blk qa) := hra
  obtain ⟨w3, hw3⟩ : ∃ w3, (wB.alloc (.cells #[.slice b0 xs.length c0, .slice none 0 0] 26)).alloc (.cells #[] 9) = w3 := ⟨_, rfl⟩
  have HR3 : Hid (RdAt w3 blk qa) := by rw [← hw3]; exact (HRA.out.alloc _).alloc _
  have HT3 : Hid (TextRow w3 (.slice (some ⟨wB.heap.size + 1, 0, none⟩) 0 0) []) := by
    rw [← hw3]
    exact ⟨_, 0, rfl, Nat.le_refl _, fun i s hs => by simp at hs, _, by have h := heap_alloc_last (wB.alloc (.cells #[.slice b0 xs.length c0, .slice none 0 0] 26)) (.cells #[] 9); rw [World.size_alloc] at h; exact h⟩
  have HK3 : Hid (Kept blk w w3) := by rw [← hw3]; exact (HKA.out.alloc _).alloc _
  have HO3 : Hid (w3.ownsRow (w.heap.size + 1) 71 5 (.slice b0 xs.length c0) xs.length (affCells xs)) := by rw [← hw3]; exact (HOA.out.alloc _).alloc _
  have HBX : Hid (w3.heap[wB.heap.size]? = some (.cells #[.slice b0 xs.length c0, .slice none 0 0] 26 (0, 0)) ∧ w3.heap[w.heap.size]? = some (.cells #[.slice none 0 0, .slice none 0 0] 26 (0, 0))) := by
    show _ ∧ _
    rw [← hw3]
    exact ⟨alloc_first wB _ _, (((Below.refl wB.heap.size wB).alloc (Nat.le_refl _) _).alloc (by simp) _).block w.heap.size hzB |>.trans hRb⟩
  have hz3 : wB.heap.size + 1 < w3.heap.size := by rw [← hw3]; simp
  clear hoa hxs hka hra hRb HKA HOA HRA
  go_wp2_with fail
  clear hw3
  refine (pick_any _ blk qa 7 HR3.out (by omega) (by omega)).mono ?_
  rintro e w4 ⟨n, rfl, hn0, hn1, hr4, hk4⟩
  obtain ⟨m, rfl⟩ := Int.eq_ofNat_of_zero_le hn0
  have hm6 : m ≤ 6 := by have := hn1 (by omega); omega
  have HR4 : Hid (RdAt w4 blk (qa + 1)) := hr4
  have HT4 : Hid (TextRow w4 (.slice (some ⟨wB.heap.size + 1, 0, none⟩) 0 0) []) := textRow_kept HT3.out HR3.out hk4
  have HK4 : Hid (Kept blk w3 w4) := hk4
  clear hn0 hn1 hr4 hk4
  go_wp2
  go_loopw [4, 5] (fun o c wr => ∃ (v0 : Value) (ss : List ByteArray) (i q : Nat), o = v0 ∧ c = .int .i64 i ∧ ss.length + i ≤ 6 ∧ TextRow wr v0 ss ∧ (∀ s ∈ ss, DrawnW s) ∧ RdAt wr blk q ∧ q + 10 * i ≤ p + 67 ∧ Kept blk w3 wr) (fun _ c _ => (intOf c).toNat)
  case atStart => exact ⟨_, [], m, qa + 1, rfl, rfl, by simp; omega, HT4.out, (fun s hs => by cases hs), HR4.out, by omega, HK4.out⟩
  case round =>
    obtain ⟨v0, ss, i, q, hov, rfl, hli, ht, hds, hr, hq, hk⟩ := hrel
    obtain ⟨g0, cp0, hv0, -⟩ := id ht
    subst hv0
    subst hov
    have HT : Hid (TextRow wr (.slice (some ⟨g0, 0, none⟩) ss.length cp0) ss) := ht
    have HDS : Hid (∀ s ∈ ss, DrawnW s) := hds
    have HRQ : Hid (RdAt wr blk q) := hr
    have HK : Hid (Kept blk w3 wr) := hk
    clear ht hds hr hk
    by_cases h0 : (0 : Int) < (i : Int)
    · go_wp2_with fail
      refine (l13Word_now _ blk q HRQ.out (by omega)).mono ?_
      rintro e w5 ⟨s, rfl, hsd, ⟨q5, hr5, hq5⟩, hk5⟩
      have HSD : Hid (DrawnW s) := hsd
      have HR5 : Hid (RdAt w5 blk q5) := hr5
      have HT5 : Hid (TextRow w5 (.slice (some ⟨g0, 0, none⟩) ss.length cp0) ss) := textRow_kept HT.out HRQ.out hk5
      have HK5 : Hid (Kept blk w3 w5) := HK.out.trans hk5
      clear hsd hr5 hk5
      go_wp2_with fail
      refine (l1Put_any _ _ ss s HT5.out (by omega)).mono ?_
      rintro e w6 ⟨v6, rfl, ht6, hb6⟩
      obtain ⟨g6, cp6, hv6, -⟩ := id ht6
      subst hv6
      have HT6 : Hid (TextRow w6 (.slice (some ⟨g6, 0, none⟩) (put ss s).length cp6) (put ss s)) := ht6
      have HR6 : Hid (RdAt w6 blk q5) := HR5.out.keep hb6
      have HK6 : Hid (Kept blk w3 w6) := HK5.out.trans (Kept.of_below hb6)
      have hpl := put_len ss s
      clear ht6 hb6
      go_wp2
      go_roundw
      case rel => exact ⟨_, put ss s, i - 1, q5, rfl, by go_num, by omega, HT6.out, (fun x hx => by rcases (mem_put ss s x).1 hx with rfl | hx; exact HSD.out; exact HDS.out x hx), HR6.out, by omega, HK6.out⟩
      case measure => simp [intOf]; omega
    · have hi0 : i = 0 := by omega
      subst hi0
      go_wp2_with fail
      refine (pick_any _ blk q 30 HRQ.out (by omega) (by omega)).mono ?_
      rintro e w5 ⟨v, rfl, hv0, hv1, hr5, hk5⟩
      have HR5 : Hid (RdAt w5 blk (q + 1)) := hr5
      have HT5 : Hid (TextRow w5 (.slice (some ⟨g0, 0, none⟩) ss.length cp0) ss) := textRow_kept HT.out HRQ.out hk5
      have HK5 : Hid (Kept blk w3 w5) := HK.out.trans hk5
      clear hv1 hr5 hk5
      cases hv : (v == 0) with
      | false =>
        have HS5 : Hid (∀ s ∈ ss, s.size ≤ 20) := fun s hs => (HDS.out s hs).1
        have hl24 : ss.length ≤ 24 := by omega
        clear HT HRQ HK
        have HT7 : Hid (TextRow w5 (.slice (some ⟨g0, 0, none⟩) ss.length cp0) ss) := HT5.out
        have HS7 : Hid (∀ s ∈ ss, s.size ≤ 20) := HS5.out
        have HR7 : Hid (RdAt w5 blk (q + 1)) := HR5.out
        have HK7 : Hid (Kept blk w3 w5) := HK5.out
        have HB7 : Hid (w5.heap[wB.heap.size]? = some (.cells #[.slice b0 xs.length c0, .slice none 0 0] 26 (0, 0)) ∧ w5.heap[w.heap.size]? = some (.cells #[.slice none 0 0, .slice none 0 0] 26 (0, 0))) := ⟨(HK7.out.block _ (by omega) (by omega)).trans HBX.out.1, (HK7.out.block _ (by omega) (by omega)).trans HBX.out.2⟩
        have hz7 : wB.heap.size + 1 < w5.heap.size := Nat.lt_of_lt_of_le hz3 HK7.out.size
        have HO7 : Hid (w5.ownsRow (w.heap.size + 1) 71 5 (.slice b0 xs.length c0) xs.length (affCells xs)) := owns_kept HO3.out HK7.out (by omega)
        go_wp2
        go_loopw [7] (fun c wr => ∃ (k qx : Nat) (ve : Value) (es : List (ByteArray × ByteArray)), c = .int .i64 k ∧ k ≤ ss.length ∧ es.length = k ∧ wr.heap[wB.heap.size]? = some (.cells #[.slice b0 xs.length c0, ve] 26 (0, 0)) ∧ wr.ownsRow w5.heap.size 76 2 ve es.length (entCells es) ∧ (∀ e ∈ es, e.1.size ≤ 20 ∧ e.2.size ≤ 20) ∧ RdAt wr blk qx ∧ qx ≤ (q + 1) + k ∧ Kept2 blk wB.heap.size w5 wr) (fun c _ => ss.length - (intOf c).toNat)
        case atStart => exact ⟨0, (q + 1), _, [], rfl, Nat.zero_le _, rfl, HB7.out.1, World.ownsRow_nil _ _ _ _, (fun e he => by cases he), HR7.out, by omega, Kept2.refl _ _ _⟩
        case round =>
          rename World => wr
          obtain ⟨k, qk, ve, es, rfl, hk, hel, hbx, hoe, hes, hrk, hqk, hk2⟩ := hrel
          subst hel
          obtain ⟨b1, c1, hv1⟩ := owns_form hoe
          subst hv1
          have HBK : Hid (wr.heap[wB.heap.size]? = some (.cells #[.slice b0 xs.length c0, .slice b1 es.length c1] 26 (0, 0))) := hbx
          have HOE : Hid (wr.ownsRow w5.heap.size 76 2 (.slice b1 es.length c1) es.length (entCells es)) := hoe
          have HES : Hid (∀ e ∈ es, e.1.size ≤ 20 ∧ e.2.size ≤ 20) := hes
          have HRK : Hid (RdAt wr blk qk) := hrk
          have HKK : Hid (Kept2 blk wB.heap.size w5 wr) := hk2
          have hzr : w5.heap.size ≤ wr.heap.size := hk2.2.2.2.1
          have x0 : wr.cell? ⟨wB.heap.size, 0, none⟩ = some (.slice b0 xs.length c0) := by rw [cell_of_row _ _ 0 _ _ _ hbx]; rfl
          have x1 : wr.cell? ⟨wB.heap.size, 1, none⟩ = some (.slice b1 es.length c1) := by rw [cell_of_row _ _ 1 _ _ _ hbx]; rfl
          have y1 := Go.Joins.unfrozen_of_block hbx 1
          clear hbx hoe hes hrk hk2
          by_cases hlk : es.length < ss.length
          · obtain ⟨s, hs⟩ : ∃ s, ss[es.length]? = some s := ⟨_, List.getElem?_eq_getElem hlk⟩
            have hs20 := HS7.out s (List.mem_of_getElem? hs)
            have d2 : wr.cell? ⟨g0, 0 + es.length, none⟩ = some (.string s) := by
              obtain ⟨g', cp', hv', -, hcc, cur, hcur⟩ := HT7.out
              simp only [Value.slice.injEq, Option.some.injEq, Addr.mk.injEq, and_true, true_and] at hv'
              obtain ⟨rfl, -⟩ := hv'
              have hne : g0 ≠ blk := by
                intro e
                obtain ⟨a, len, cap', h1, _⟩ := HR7.out
                rw [← e, hcur] at h1
                simp at h1
              have hnb : g0 ≠ wB.heap.size := by
                intro e
                have h1 := HB7.out.1
                rw [← e, hcur] at h1
                simp at h1
              rw [Nat.zero_add]
              exact (World.cell?_of_block (w := w5) (HKK.out.2.2.2.2 g0 (lt_of_block hcur) hne hnb)).trans (hcc es.length s hs)
            have d2' : wr.cell? ⟨g0, es.length, none⟩ = some (.string s) := by rw [Nat.zero_add] at d2; exact d2
            have i0 : (0 : Int) ≤ (es.length : Int) := by omega
            have i1 : (es.length : Int) < (ss.length : Int) := by omega
            have hq9 : qk ≤ 900000 := by omega
            have hzbr : wB.heap.size < wr.heap.size := by omega
            clear hs
            go_wp2_with fail
            go_region_law (first
              | (have qm := HK8; clear qm; refine step_append_own rfl (.tmp 45) (.tmp 52) 24 rfl w5.heap.size 76 i4 (.agg #[.string ⟨#[]⟩, .string ⟨#[]⟩]) 2 32 Tryz.underlying24 hi4 hz4 hs4 hb4 rfl (by decide) _ _ _ rfl (by exact HOE8.out.alloc _) ⟨_, 0, none⟩ 1 1 [.string s, .string fl] rfl rfl (by exact news_cells (cs := #[.string s, .string fl]) (heap_alloc_last _ _)) (by simp [Value.oneCell']) (by unfold maxLen; omega) (by omega) (by simp; omega) ?_; intro v' w9 hown hgrow hnil; have HB9 : Hid (w9.heap[wB.heap.size]? = some (.cells #[.slice b0 xs.length c0, .slice b1 es.length c1] 26 (0, 0))) := (hgrow.block wB.heap.size (by simp; omega) (owns_ne HOE8.out (by omega))).trans ((box_past HBK8.out)); have z0 := cell_of_row _ _ 0 _ _ _ HB9.out; have z1 := cell_of_row _ _ 1 _ _ _ HB9.out; have z2 := Go.Joins.unfrozen_of_block HB9.out 1; simp at z0 z1; have HR9 : Hid (RdAt w9 blk (qk + 1)) := rd_grown (rd_past HR8.out) hgrow (fun j hj => by have := own_block_ge HOE8.out j hj; omega); have HK9 : Hid (Kept2 blk wB.heap.size w5 w9) := Kept2.grown (k2_past HKK8.out) (owns_past HOE8.out) (Nat.le_refl _) hgrow; have HO9 : Hid (w9.ownsRow w5.heap.size 76 2 v' (es.length + 1) (entCells es ++ [.string s, .string fl])) := hown; clear hgrow hnil; obtain ⟨b9, c9, hv9⟩ := owns_form hown; subst hv9; clear hown)
              | (go_simp; go_at_call 60; refine (l13Entry_any _ blk qk s (HRK.out.drewN 1) hq9).mono ?_; rintro e w8 ⟨fl, rfl, hfl, hr8, hk8⟩; have HK8 : Hid (Kept blk wr w8) := kept_drew hk8; have HR8 : Hid (RdAt w8 blk (qk + 1)) := hr8; have HOE8 : Hid (w8.ownsRow w5.heap.size 76 2 (.slice b1 es.length c1) es.length (entCells es)) := owns_kept HOE.out HK8.out (by omega); have HBK8 : Hid (w8.heap[wB.heap.size]? = some (.cells #[.slice b0 xs.length c0, .slice b1 es.length c1] 26 (0, 0))) := (HK8.out.block _ (by omega) (by omega)).trans HBK.out; have HKK8 : Hid (Kept2 blk wB.heap.size w5 w8) := HKK.out.kept HK8.out; have hz8 : wr.heap.size ≤ w8.heap.size := HK8.out.size; have hzb8 : wB.heap.size < w8.heap.size := Nat.lt_of_lt_of_le hzbr hz8; have x8 : w8.cell? ⟨wB.heap.size, 1, none⟩ = some (.slice b1 es.length c1) := (HK8.out.cell (p := ⟨wB.heap.size, 1, none⟩) (by dsimp only; omega) (by dsimp only; omega)).trans x1; clear hk8 hr8))
            all_goals
              go_wp2
              go_roundw
              case rel =>
                refine ⟨es.length + 1, qk + 1, _, es ++ [(s, fl)], by go_num, by omega, by simp, set_box HB9.out _, ?_, fun e he => ?_, HR9.out.setNew (by omega) _ _, by omega, HK9.out.set _ _⟩
                · rw [List.length_append, entCells_append]
                  exact owns_set HO9.out _ _ _ (by omega)
                · rcases List.mem_append.1 he with he | he
                  · exact HES.out e he
                  · rw [List.mem_singleton.1 he]
                    exact ⟨hs20, hfl⟩
              case measure => simp [intOf]; omega
          · have hRb : wr.heap[w.heap.size]? = some (.cells #[.slice none 0 0, .slice none 0 0] 26 (0, 0)) := (HKK.out.2.2.2.2 w.heap.size (by omega) (by omega) (by omega)).trans HB7.out.2
            have r0 : wr.cell? ⟨w.heap.size, 0, none⟩ = some (.slice none 0 0) := by rw [cell_of_row _ _ 0 _ _ _ hRb]; rfl
            have r1 : wr.cell? ⟨w.heap.size, 1, none⟩ = some (.slice none 0 0) := by rw [cell_of_row _ _ 1 _ _ _ hRb]; rfl
            have u0 := Go.Joins.unfrozen_of_block hRb 0
            have u1 := Go.Joins.unfrozen_of_block hRb 1
            have HOF : Hid (wr.ownsRow (w.heap.size + 1) 71 5 (.slice b0 xs.length c0) xs.length (affCells xs)) := owns_kept2 HO7.out HKK.out HB7.out.1 (by omega) (by decide)
            have HKF : Hid (Kept blk w wr) := kept_two (HK3.out.trans HK7.out) HKK.out (by omega)
            clear hRb x1 y1
            have x1 : wr.cell? ⟨wB.heap.size, 1, none⟩ = some (.slice b1 es.length c1) := by rw [cell_of_row _ _ 1 _ _ _ HBK.out]; rfl
            go_wp2
            refine bodyPost_ret (v := .agg #[.slice b0 xs.length c0, .slice b1 es.length c1]) (by simp [results, Tryz.results37, go_sem, r0, r1]) rfl ⟨_, _, xs, es, rfl, ?_, ?_, hx4, by omega, HXS.out, HES.out, ⟨qk, (HRK.out.setNew hlt _ _).setNew hlt _ _, by omega⟩, (HKF.out.setNew (Nat.le_refl _) _ _).setNew (Nat.le_refl _) _ _⟩
            · exact owns_lower (owns_set (owns_set HOF.out _ _ _ (by omega)) _ _ _ (by omega)) (by omega)
            · exact owns_lower (owns_set (owns_set HOE.out _ _ _ (by omega)) _ _ _ (by omega)) (by omega)
      | true =>
        clear HT HRQ HK
        go_wp2
        go_loopw [4, 6] (fun o c wr => ∃ (v0 : Value) (ts : List ByteArray) (k : Nat), o = v0 ∧ c = .int .i64 k ∧ ts.length ≤ 24 ∧ k ≤ ts.length ∧ TextRow wr v0 ts ∧ (∀ j, k ≤ j → j < 150 → wl j ∉ ts) ∧ (∀ s ∈ ts, s.size ≤ 20) ∧ RdAt wr blk (q + 1) ∧ Kept blk w3 wr) (fun o _ _ => 24 - lenOf o)
        case atStart => exact ⟨_, ss, 0, rfl, rfl, by omega, Nat.zero_le _, HT5.out, (fun j _ _ hm => wl_noW j (HDS.out _ hm).2), (fun s hs => (HDS.out s hs).1), HR5.out, HK5.out⟩
        case round =>
          rename World => w6
          obtain ⟨v0, ts, k, hov, rfl, hl24, hkt, ht, hnw, hsz, hr, hk⟩ := hrel
          obtain ⟨g1, cp1, hv1, -⟩ := id ht
          subst hv1
          subst hov
          have HT6 : Hid (TextRow w6 (.slice (some ⟨g1, 0, none⟩) ts.length cp1) ts) := ht
          have HNW : Hid (∀ j, k ≤ j → j < 150 → wl j ∉ ts) := hnw
          have HS6 : Hid (∀ s ∈ ts, s.size ≤ 20) := hsz
          have HR6 : Hid (RdAt w6 blk (q + 1)) := hr
          have HK6 : Hid (Kept blk w3 w6) := hk
          clear ht hnw hsz hr hk
          by_cases hl : ts.length < 24
          · have hl' : (ts.length : Int) < 24 := by omega
            obtain ⟨Lk, hLk⟩ : ∃ L : ByteArray, (⟨#[UInt8.ofNat (97 + k)]⟩ : ByteArray) = L := ⟨_, rfl⟩
            have hls : Lk.size = 1 := by rw [← hLk]; rfl
            have hc : ∀ (b : Nat) (x : Int), x = 97 + (k : Int) → ∀ wx : World, wx.cell? ⟨b, 0, none⟩ = some (.int .u8 x) → (convert 22 9 (.slice (some ⟨b, 0, none⟩) 1 1)).run Tryz.prog wx = .ok (.string Lk) wx := fun b x hx wx h => by rw [← hLk]; exact conv_wl k b x hx wx h
            have HWL : Hid (⟨#[119]⟩ ++ Lk = wl k) := by show _ = _; rw [← hLk]; rfl
            have hk24 : k < 24 := by omega
            clear hLk
            go_wp2_with fail
            obtain ⟨w6a, hw6a⟩ : ∃ x, w6.alloc (.cells #[.int .u8 (97 + (k : Int))] 5) = x := ⟨_, rfl⟩
            have HT6a : TextRow w6a (.slice (some ⟨g1, 0, none⟩) ts.length cp1) ts := by rw [← hw6a]; exact HT6.out.below ((Below.refl w6.heap.size w6).alloc (Nat.le_refl _) _)
            have HR6a : RdAt w6a blk (q + 1) := by rw [← hw6a]; exact HR6.out.alloc _
            have HK6a : Kept blk w3 w6a := by rw [← hw6a]; exact HK6.out.alloc _
            rw [hw6a]
            clear hw6a
            have HPW := HWL.out
            rw [HPW]
            refine (l1Put_any w6a _ ts (wl k) HT6a (by omega)).mono ?_
            rintro e w7 ⟨v7, rfl, ht7, hb7⟩
            obtain ⟨g7, cp7, hv7, -⟩ := id ht7
            subst hv7
            have HT7 : Hid (TextRow w7 (.slice (some ⟨g7, 0, none⟩) (put ts (wl k)).length cp7) (put ts (wl k))) := ht7
            have HR7 : Hid (RdAt w7 blk (q + 1)) := HR6a.keep hb7
            have HK7 : Hid (Kept blk w3 w7) := HK6a.trans (Kept.of_below hb7)
            have HPL : Hid ((put ts (wl k)).length = ts.length + 1) := put_new (HNW.out k (Nat.le_refl _) (by omega))
            clear ht7 hb7 HT6a HR6a HK6a HPW
            go_wp2
            go_roundw
            case rel =>
              have hpl := HPL.out
              exact ⟨_, put ts (wl k), k + 1, rfl, by go_num, by omega, by omega, HT7.out, (fun j hj hj' hm => by
                rcases (mem_put ts (wl k) (wl j)).1 hm with e | hm
                · have := wl_inj hj' (by omega) e
                  omega
                · exact HNW.out j (by omega) hj' hm), (fun s hs => by
                rcases (mem_put ts (wl k) s).1 hs with rfl | hs
                · rw [wl_size]
                  decide
                · exact HS6.out s hs), HR7.out, HK7.out⟩
            case measure =>
              have hpl := HPL.out
              simp [lenOf, hpl]
              omega
          · have hl' : ¬ (ts.length : Int) < 24 := by omega
            have HT7 : Hid (TextRow w6 (.slice (some ⟨g1, 0, none⟩) ts.length cp1) ts) := HT6.out
            have HS7 : Hid (∀ s ∈ ts, s.size ≤ 20) := HS6.out
            have HR7 : Hid (RdAt w6 blk (q + 1)) := HR6.out
            have HK7 : Hid (Kept blk w3 w6) := HK6.out
            have HB7 : Hid (w6.heap[wB.heap.size]? = some (.cells #[.slice b0 xs.length c0, .slice none 0 0] 26 (0, 0)) ∧ w6.heap[w.heap.size]? = some (.cells #[.slice none 0 0, .slice none 0 0] 26 (0, 0))) := ⟨(HK7.out.block _ (by omega) (by omega)).trans HBX.out.1, (HK7.out.block _ (by omega) (by omega)).trans HBX.out.2⟩
            have hz7 : wB.heap.size + 1 < w6.heap.size := Nat.lt_of_lt_of_le hz3 HK7.out.size
            have HO7 : Hid (w6.ownsRow (w.heap.size + 1) 71 5 (.slice b0 xs.length c0) xs.length (affCells xs)) := owns_kept HO3.out HK7.out (by omega)
            go_wp2
            go_loopw [7] (fun c wr => ∃ (k qx : Nat) (ve : Value) (es : List (ByteArray × ByteArray)), c = .int .i64 k ∧ k ≤ ts.length ∧ es.length = k ∧ wr.heap[wB.heap.size]? = some (.cells #[.slice b0 xs.length c0, ve] 26 (0, 0)) ∧ wr.ownsRow w6.heap.size 76 2 ve es.length (entCells es) ∧ (∀ e ∈ es, e.1.size ≤ 20 ∧ e.2.size ≤ 20) ∧ RdAt wr blk qx ∧ qx ≤ (q + 1) + k ∧ Kept2 blk wB.heap.size w6 wr) (fun c _ => ts.length - (intOf c).toNat)
            case atStart => exact ⟨0, (q + 1), _, [], rfl, Nat.zero_le _, rfl, HB7.out.1, World.ownsRow_nil _ _ _ _, (fun e he => by cases he), HR7.out, by omega, Kept2.refl _ _ _⟩
            case round =>
              rename World => wr
              obtain ⟨k, qk, ve, es, rfl, hk, hel, hbx, hoe, hes, hrk, hqk, hk2⟩ := hrel
              subst hel
              obtain ⟨b1, c1, hv1⟩ := owns_form hoe
              subst hv1
              have HBK : Hid (wr.heap[wB.heap.size]? = some (.cells #[.slice b0 xs.length c0, .slice b1 es.length c1] 26 (0, 0))) := hbx
              have HOE : Hid (wr.ownsRow w6.heap.size 76 2 (.slice b1 es.length c1) es.length (entCells es)) := hoe
              have HES : Hid (∀ e ∈ es, e.1.size ≤ 20 ∧ e.2.size ≤ 20) := hes
              have HRK : Hid (RdAt wr blk qk) := hrk
              have HKK : Hid (Kept2 blk wB.heap.size w6 wr) := hk2
              have hzr : w6.heap.size ≤ wr.heap.size := hk2.2.2.2.1
              have x0 : wr.cell? ⟨wB.heap.size, 0, none⟩ = some (.slice b0 xs.length c0) := by rw [cell_of_row _ _ 0 _ _ _ hbx]; rfl
              have x1 : wr.cell? ⟨wB.heap.size, 1, none⟩ = some (.slice b1 es.length c1) := by rw [cell_of_row _ _ 1 _ _ _ hbx]; rfl
              have y1 := Go.Joins.unfrozen_of_block hbx 1
              clear hbx hoe hes hrk hk2
              by_cases hlk : es.length < ts.length
              · obtain ⟨s, hs⟩ : ∃ s, ts[es.length]? = some s := ⟨_, List.getElem?_eq_getElem hlk⟩
                have hs20 := HS7.out s (List.mem_of_getElem? hs)
                have d2 : wr.cell? ⟨g1, 0 + es.length, none⟩ = some (.string s) := by
                  obtain ⟨g', cp', hv', -, hcc, cur, hcur⟩ := HT7.out
                  simp only [Value.slice.injEq, Option.some.injEq, Addr.mk.injEq, and_true, true_and] at hv'
                  obtain ⟨rfl, -⟩ := hv'
                  have hne : g1 ≠ blk := by
                    intro e
                    obtain ⟨a, len, cap', h1, _⟩ := HR7.out
                    rw [← e, hcur] at h1
                    simp at h1
                  have hnb : g1 ≠ wB.heap.size := by
                    intro e
                    have h1 := HB7.out.1
                    rw [← e, hcur] at h1
                    simp at h1
                  rw [Nat.zero_add]
                  exact (World.cell?_of_block (w := w6) (HKK.out.2.2.2.2 g1 (lt_of_block hcur) hne hnb)).trans (hcc es.length s hs)
                have d2' : wr.cell? ⟨g1, es.length, none⟩ = some (.string s) := by rw [Nat.zero_add] at d2; exact d2
                have i0 : (0 : Int) ≤ (es.length : Int) := by omega
                have i1 : (es.length : Int) < (ts.length : Int) := by omega
                have hq9 : qk ≤ 900000 := by omega
                have hzbr : wB.heap.size < wr.heap.size := by omega
                clear hs
                go_wp2_with fail
                go_region_law (first
                  | (have qm := HK8; clear qm; refine step_append_own rfl (.tmp 45) (.tmp 52) 24 rfl w6.heap.size 76 i4 (.agg #[.string ⟨#[]⟩, .string ⟨#[]⟩]) 2 32 Tryz.underlying24 hi4 hz4 hs4 hb4 rfl (by decide) _ _ _ rfl (by exact HOE8.out.alloc _) ⟨_, 0, none⟩ 1 1 [.string s, .string fl] rfl rfl (by exact news_cells (cs := #[.string s, .string fl]) (heap_alloc_last _ _)) (by simp [Value.oneCell']) (by unfold maxLen; omega) (by omega) (by simp; omega) ?_; intro v' w9 hown hgrow hnil; have HB9 : Hid (w9.heap[wB.heap.size]? = some (.cells #[.slice b0 xs.length c0, .slice b1 es.length c1] 26 (0, 0))) := (hgrow.block wB.heap.size (by simp; omega) (owns_ne HOE8.out (by omega))).trans ((box_past HBK8.out)); have z0 := cell_of_row _ _ 0 _ _ _ HB9.out; have z1 := cell_of_row _ _ 1 _ _ _ HB9.out; have z2 := Go.Joins.unfrozen_of_block HB9.out 1; simp at z0 z1; have HR9 : Hid (RdAt w9 blk (qk + 1)) := rd_grown (rd_past HR8.out) hgrow (fun j hj => by have := own_block_ge HOE8.out j hj; omega); have HK9 : Hid (Kept2 blk wB.heap.size w6 w9) := Kept2.grown (k2_past HKK8.out) (owns_past HOE8.out) (Nat.le_refl _) hgrow; have HO9 : Hid (w9.ownsRow w6.heap.size 76 2 v' (es.length + 1) (entCells es ++ [.string s, .string fl])) := hown; clear hgrow hnil; obtain ⟨b9, c9, hv9⟩ := owns_form hown; subst hv9; clear hown)
                  | (go_simp; go_at_call 60; refine (l13Entry_any _ blk qk s (HRK.out.drewN 1) hq9).mono ?_; rintro e w8 ⟨fl, rfl, hfl, hr8, hk8⟩; have HK8 : Hid (Kept blk wr w8) := kept_drew hk8; have HR8 : Hid (RdAt w8 blk (qk + 1)) := hr8; have HOE8 : Hid (w8.ownsRow w6.heap.size 76 2 (.slice b1 es.length c1) es.length (entCells es)) := owns_kept HOE.out HK8.out (by omega); have HBK8 : Hid (w8.heap[wB.heap.size]? = some (.cells #[.slice b0 xs.length c0, .slice b1 es.length c1] 26 (0, 0))) := (HK8.out.block _ (by omega) (by omega)).trans HBK.out; have HKK8 : Hid (Kept2 blk wB.heap.size w6 w8) := HKK.out.kept HK8.out; have hz8 : wr.heap.size ≤ w8.heap.size := HK8.out.size; have hzb8 : wB.heap.size < w8.heap.size := Nat.lt_of_lt_of_le hzbr hz8; have x8 : w8.cell? ⟨wB.heap.size, 1, none⟩ = some (.slice b1 es.length c1) := (HK8.out.cell (p := ⟨wB.heap.size, 1, none⟩) (by dsimp only; omega) (by dsimp only; omega)).trans x1; clear hk8 hr8))
                all_goals
                  go_wp2
                  go_roundw
                  case rel =>
                    refine ⟨es.length + 1, qk + 1, _, es ++ [(s, fl)], by go_num, by omega, by simp, set_box HB9.out _, ?_, fun e he => ?_, HR9.out.setNew (by omega) _ _, by omega, HK9.out.set _ _⟩
                    · rw [List.length_append, entCells_append]
                      exact owns_set HO9.out _ _ _ (by omega)
                    · rcases List.mem_append.1 he with he | he
                      · exact HES.out e he
                      · rw [List.mem_singleton.1 he]
                        exact ⟨hs20, hfl⟩
                  case measure => simp [intOf]; omega
              · have hRb : wr.heap[w.heap.size]? = some (.cells #[.slice none 0 0, .slice none 0 0] 26 (0, 0)) := (HKK.out.2.2.2.2 w.heap.size (by omega) (by omega) (by omega)).trans HB7.out.2
                have r0 : wr.cell? ⟨w.heap.size, 0, none⟩ = some (.slice none 0 0) := by rw [cell_of_row _ _ 0 _ _ _ hRb]; rfl
                have r1 : wr.cell? ⟨w.heap.size, 1, none⟩ = some (.slice none 0 0) := by rw [cell_of_row _ _ 1 _ _ _ hRb]; rfl
                have u0 := Go.Joins.unfrozen_of_block hRb 0
                have u1 := Go.Joins.unfrozen_of_block hRb 1
                have HOF : Hid (wr.ownsRow (w.heap.size + 1) 71 5 (.slice b0 xs.length c0) xs.length (affCells xs)) := owns_kept2 HO7.out HKK.out HB7.out.1 (by omega) (by decide)
                have HKF : Hid (Kept blk w wr) := kept_two (HK3.out.trans HK7.out) HKK.out (by omega)
                clear hRb x1 y1
                have x1 : wr.cell? ⟨wB.heap.size, 1, none⟩ = some (.slice b1 es.length c1) := by rw [cell_of_row _ _ 1 _ _ _ HBK.out]; rfl
                go_wp2
                refine bodyPost_ret (v := .agg #[.slice b0 xs.length c0, .slice b1 es.length c1]) (by simp [results, Tryz.results37, go_sem, r0, r1]) rfl ⟨_, _, xs, es, rfl, ?_, ?_, hx4, by omega, HXS.out, HES.out, ⟨qk, (HRK.out.setNew hlt _ _).setNew hlt _ _, by omega⟩, (HKF.out.setNew (Nat.le_refl _) _ _).setNew (Nat.le_refl _) _ _⟩
                · exact owns_lower (owns_set (owns_set HOF.out _ _ _ (by omega)) _ _ _ (by omega)) (by omega)
                · exact owns_lower (owns_set (owns_set HOE.out _ _ _ (by omega)) _ _ _ (by omega)) (by omega)
end Go.Proofs.YtcmajekdalcjeaaGreat
/-
  Drawn books, any.
-/
namespace Go.Proofs.YtcmajekdalcjeaaGreat
open Go.RowKit
set_option linter.unusedVariables false
theorem owns_block_ne {w : World} {lo B : Nat} {e t : TypeId} {s n : Nat} {v : Value} {xs : List Value} {bs : Array Value} {fz : Nat × Nat} (h : w.ownsRow lo e s v n xs) (hB : w.heap[B]? = some (.cells bs t fz)) (ht : e ≠ t) : some B ≠ v.ownBlock := by
  rcases h.2 with ⟨rfl, _⟩ | ⟨g, cap, cur, rfl, hg, h2, _⟩
  · simp [Value.ownBlock]
  · intro e1
    have e2 : B = g := by simpa [Value.ownBlock] using e1
    rw [← e2, hB] at h2
    simp at h2
    exact ht h2.2.1.symm
theorem owns_apart {w w' : World} {lo lo2 : Nat} {e e2 : TypeId} {s n s2 n2 : Nat} {v v2 : Value} {xs xs2 : List Value} (h : w.ownsRow lo e s v n xs) (h2 : w.ownsRow lo2 e2 s2 v2 n2 xs2) (ht : e2 ≠ e) (hg : w.grownBy w' v2.ownBlock) : w'.ownsRow lo e s v n xs :=
  h.kept hg (by
    rcases h.2 with ⟨rfl, _⟩ | ⟨g, cap, cur, rfl, hg', h3, _⟩
    · exact .inl rfl
    · right
      exact owns_block_ne h2 h3 ht)
theorem owns_set2 {w : World} {lo B : Nat} {e t : TypeId} {s n : Nat} {v : Value} {xs : List Value} {bs : Array Value} {fz : Nat × Nat} (h : w.ownsRow lo e s v n xs) (hB : w.heap[B]? = some (.cells bs t fz)) (ht : e ≠ t) (o : Nat) (u : Value) : (w.setCell ⟨B, o, none⟩ u).ownsRow lo e s v n xs :=
  h.kept (grown_set w B o u) (.inr (fun e1 => owns_block_ne h hB ht e1.symm))
theorem set_box0 {w : World} {B : Nat} {t : TypeId} {a b : Value} (h : w.heap[B]? = some (.cells #[a, b] t (0, 0))) (v : Value) : (w.setCell ⟨B, 0, none⟩ v).heap[B]? = some (.cells #[v, b] t (0, 0)) := by
  have hlt := lt_of_block h
  unfold World.setCell
  rw [Array.getElem?_modify]
  simp [h]
theorem owns_poke {w : World} {lo g n cap : Nat} {e : TypeId} {s : Nat} {xs : List Value} (h : w.ownsRow lo e s (.slice (some ⟨g, 0, none⟩) n cap) n xs) (i : Nat) (u : Value) (hi : i < xs.length) : (w.setCell ⟨g, i, none⟩ u).ownsRow lo e s (.slice (some ⟨g, 0, none⟩) n cap) n (xs.set i u) := by
  refine ⟨by rw [List.length_set]; exact h.1, ?_⟩
  rcases h.2 with ⟨h0, _⟩ | ⟨g', cap', cur, hv, hg, h3, h4, h5, h6, h7⟩
  · cases h0
  · simp only [Value.slice.injEq, Option.some.injEq, Addr.mk.injEq, and_true, true_and] at hv
    obtain ⟨rfl, rfl⟩ := hv
    refine .inr ⟨g, cap, cur.setIfInBounds i u, rfl, hg, ?_, h4, h5, by simpa using h6, ?_⟩
    · have hlt := lt_of_block h3
      unfold World.setCell
      rw [Array.getElem?_modify]
      simp [h3]
    · rw [Array.toList_setIfInBounds, List.take_set, h7]
theorem ents_head {w : World} {lo : Nat} {v : Value} {s f : ByteArray} {es es' : List (ByteArray × ByteArray)} (h : w.ownsRow lo 76 2 v es'.length (entCells es')) (he : es' = (s, f) :: es) : ∃ g cap cs, v = .slice (some ⟨g, 0, none⟩) es'.length cap ∧ lo ≤ g ∧ w.heap[g]? = some (.cells cs 76 (0, 0)) ∧ cs[0]? = some (.string s) := by
  subst he
  rcases h.2 with ⟨_, h0⟩ | ⟨g, cap, cur, hv, hg, h3, h4, h5, h6, h7⟩
  · simp at h0
  · refine ⟨g, cap, cur, hv, hg, h3, ?_⟩
    have h8 : (cur.toList.take (((s, f) :: es).length * 2))[0]? = some (.string s) := by rw [h7]; simp [entCells]
    rw [List.getElem?_take] at h8
    split at h8
    · simpa using h8
    · cases h8
theorem ents_poke {w : World} {lo g cap : Nat} {s f : ByteArray} {es es' : List (ByteArray × ByteArray)} (h : w.ownsRow lo 76 2 (.slice (some ⟨g, 0, none⟩) es'.length cap) es'.length (entCells es')) (he : es' = (s, f) :: es) (u : ByteArray) : (w.setCell ⟨g, 0, none⟩ (.string u)).ownsRow lo 76 2 (.slice (some ⟨g, 0, none⟩) es'.length cap) ((u, f) :: es).length (entCells ((u, f) :: es)) := by
  have h1 := owns_poke h 0 (.string u) (by subst he; simp [entCells])
  subst he
  simpa [entCells] using h1
set_option maxRecDepth 100000 in
set_option maxHeartbeats 4000000 in
theorem l13AnyBook_any (w : World) (blk p : Nat) (h : RdAt w blk p) (hp : p ≤ 600000) :
    Calls Tryz.prog 18 #[.pointer (some ⟨blk, 0, none⟩)] w fun e w' => ∃ (va ve : Value) (xs : List Aff) (es : List (ByteArray × ByteArray)), e = .returned (.agg #[va, ve]) ∧ w'.ownsRow w.heap.size 71 5 va xs.length (affCells xs) ∧ w'.ownsRow w.heap.size 76 2 ve es.length (entCells es) ∧ xs.length ≤ 5 ∧ es.length ≤ 25 ∧ (∀ a ∈ xs, a.small) ∧ (∀ e ∈ es, e.1.size ≤ 20 ∧ e.2.size ≤ 20) ∧ (∃ q, RdAt w' blk q ∧ q ≤ p + 250) ∧ Kept blk w w' := by
  have hlt := h.lt
  have HR : Hid (RdAt w blk p) := h
  clear h
  obtain ⟨i4, hi4, hz4, hs4, hb4⟩ := info_parts info_ent173
  obtain ⟨i3, hi3, hz3, hs3, hb3⟩ := info_parts info_aff172
  go_enter Tryz.func18, Tryz.ntmps18
  go_wp2_with fail
  refine (l13Book_any _ blk p (HR.out.alloc _) (by omega)).mono ?_
  rintro e wB ⟨va, ve, xs, es, rfl, hoa, hoe, hx4, he24, hxs, hes, ⟨qa, hra, hqa⟩, hka⟩
  obtain ⟨b0, c0, rfl⟩ := owns_form hoa
  obtain ⟨b1, c1, rfl⟩ := owns_form hoe
  have HXS : Hid (∀ a ∈ xs, a.small) := hxs
  have HES : Hid (∀ e ∈ es, e.1.size ≤ 20 ∧ e.2.size ≤ 20) := hes
  have HKA : Hid (Kept blk w wB) := ((Kept.refl blk w).alloc _).trans hka
  have HOA1 : Hid (wB.ownsRow (w.heap.size + 1) 71 5 (.slice b0 xs.length c0) xs.length (affCells xs)) := owns_lower hoa (by simp)
  have HOE1 : Hid (wB.ownsRow (w.heap.size + 1) 76 2 (.slice b1 es.length c1) es.length (entCells es)) := owns_lower hoe (by simp)
  have hRb : wB.heap[w.heap.size]? = some (.cells #[.slice none 0 0, .slice none 0 0] 26 (0, 0)) := (hka.block w.heap.size (by simp) (by omega)).trans (heap_alloc_last w _)
  have hzB : w.heap.size < wB.heap.size := by have := hka.size; simp at this; omega
  have HRA : Hid (RdAt wB blk qa) := hra
  obtain ⟨w3, hw3⟩ : ∃ w3, wB.alloc (.cells #[.slice b0 xs.length c0, .slice b1 es.length c1] 26) = w3 := ⟨_, rfl⟩
  have HR3 : Hid (RdAt w3 blk qa) := by rw [← hw3]; exact HRA.out.alloc _
  have HK3 : Hid (Kept blk w w3) := by rw [← hw3]; exact HKA.out.alloc _
  have HOA3 : Hid (w3.ownsRow (w.heap.size + 1) 71 5 (.slice b0 xs.length c0) xs.length (affCells xs)) := by rw [← hw3]; exact HOA1.out.alloc _
  have HOE3 : Hid (w3.ownsRow (w.heap.size + 1) 76 2 (.slice b1 es.length c1) es.length (entCells es)) := by rw [← hw3]; exact HOE1.out.alloc _
  have HBX3 : Hid (w3.heap[wB.heap.size]? = some (.cells #[.slice b0 xs.length c0, .slice b1 es.length c1] 26 (0, 0))) := by show _ = _; rw [← hw3]; exact heap_alloc_last wB _
  have HRB3 : Hid (w3.heap[w.heap.size]? = some (.cells #[.slice none 0 0, .slice none 0 0] 26 (0, 0))) := by show _ = _; rw [← hw3]; exact box_past hRb
  have hz3' : wB.heap.size < w3.heap.size := by rw [← hw3]; simp
  clear hoa hoe hxs hes hka hra hRb HKA HOA1 HOE1 HRA
  go_wp2_with fail
  clear hw3
  refine (pick_any _ blk qa 16 HR3.out (by omega) (by omega)).mono ?_
  rintro e w4 ⟨v, rfl, hv0, hv1, hr4, hk4⟩
  have HR4 : Hid (RdAt w4 blk (qa + 1)) := hr4
  have HK4 : Hid (Kept blk w w4) := HK3.out.trans hk4
  have HOA : Hid (w4.ownsRow (w.heap.size + 1) 71 5 (.slice b0 xs.length c0) xs.length (affCells xs)) := owns_kept HOA3.out hk4 (by omega)
  have HOE : Hid (w4.ownsRow (w.heap.size + 1) 76 2 (.slice b1 es.length c1) es.length (entCells es)) := owns_kept HOE3.out hk4 (by omega)
  have HBX : Hid (w4.heap[wB.heap.size]? = some (.cells #[.slice b0 xs.length c0, .slice b1 es.length c1] 26 (0, 0))) := (hk4.block _ (by omega) (by omega)).trans HBX3.out
  have HRB : Hid (w4.heap[w.heap.size]? = some (.cells #[.slice none 0 0, .slice none 0 0] 26 (0, 0))) := (hk4.block _ (by omega) (by omega)).trans HRB3.out
  have hz4' : wB.heap.size < w4.heap.size := Nat.lt_of_lt_of_le hz3' hk4.size
  clear hv0 hv1 hr4 hk4 HOA3 HOE3 HBX3 HRB3 HR3 HK3
  have x0 : w4.cell? ⟨wB.heap.size, 0, none⟩ = some (.slice b0 xs.length c0) := by rw [cell_of_row _ _ 0 _ _ _ HBX.out]; rfl
  have x1 : w4.cell? ⟨wB.heap.size, 1, none⟩ = some (.slice b1 es.length c1) := by rw [cell_of_row _ _ 1 _ _ _ HBX.out]; rfl
  cases hva : (v == 0) with
  | true =>
    go_wp2_with fail
    go_region_law (first
      | (have qm := HK8; clear qm; refine step_append_own rfl (.tmp 11) (.tmp 14) 23 rfl (w.heap.size + 1) 71 i3 (.agg #[.string ⟨#[]⟩, .bool false, .string ⟨#[]⟩, .string ⟨#[]⟩, .string ⟨#[]⟩]) 5 72 Tryz.underlying23 hi3 hz3 hs3 hb3 rfl (by decide) _ _ _ rfl (by exact HOA8.out.alloc _) ⟨_, 0, none⟩ 1 1 [.string f, .bool fr, .string st, .string ad, .string wh] rfl rfl (by exact news_cells (cs := #[.string f, .bool fr, .string st, .string ad, .string wh]) (heap_alloc_last _ _)) (by simp [Value.oneCell']) (by unfold maxLen; omega) (by omega) (by simp; omega) ?_; intro v' w9 hown hgrow hnil; have HB9 : Hid (w9.heap[wB.heap.size]? = some (.cells #[.slice b0 xs.length c0, .slice b1 es.length c1] 26 (0, 0))) := (hgrow.block wB.heap.size (by simp; omega) (owns_block_ne HOA8.out HBX8.out (by decide))).trans (box_past HBX8.out); have HRB9 : Hid (w9.heap[w.heap.size]? = some (.cells #[.slice none 0 0, .slice none 0 0] 26 (0, 0))) := (hgrow.block w.heap.size (by simp; omega) (owns_block_ne HOA8.out HRB8.out (by decide))).trans (box_past HRB8.out); have z0 := cell_of_row _ _ 0 _ _ _ HB9.out; have z1 := cell_of_row _ _ 1 _ _ _ HB9.out; have z2 := Go.Joins.unfrozen_of_block HB9.out 0; simp at z0 z1; have HR9 : Hid (RdAt w9 blk q8) := rd_grown (rd_past HR8.out) hgrow (fun j hj => by have := own_block_ge HOA8.out j hj; omega); have HK9 : Hid (Kept blk w w9) := kept_grown (HKW8.out.alloc _) (owns_past HOA8.out) (by omega) hgrow; have HO9 : Hid (w9.ownsRow (w.heap.size + 1) 71 5 v' (xs.length + 1) (affCells xs ++ [.string f, .bool fr, .string st, .string ad, .string wh])) := hown; have HE9 : Hid (w9.ownsRow (w.heap.size + 1) 76 2 (.slice b1 es.length c1) es.length (entCells es)) := owns_apart (owns_past HOE8.out) (owns_past HOA8.out) (by decide) hgrow; clear hgrow hnil; obtain ⟨b9, c9, hv9⟩ := owns_form hown; subst hv9; clear hown)
      | (go_simp; go_at_call 38; refine (l13AnyAffix_any _ blk (qa + 1) (HR4.out.drewN 1) (by omega)).mono ?_; rintro e w8 ⟨a, rfl, has, ⟨q8, hr8, hq8⟩, hk8⟩; obtain ⟨f, fr, st, ad, wh⟩ := a; have HAS : Hid (Aff.small ⟨f, fr, st, ad, wh⟩) := has; have HK8 : Hid (Kept blk w4 w8) := kept_drew hk8; have HR8 : Hid (RdAt w8 blk q8) := hr8; have HOA8 : Hid (w8.ownsRow (w.heap.size + 1) 71 5 (.slice b0 xs.length c0) xs.length (affCells xs)) := owns_kept HOA.out HK8.out (by omega); have HOE8 : Hid (w8.ownsRow (w.heap.size + 1) 76 2 (.slice b1 es.length c1) es.length (entCells es)) := owns_kept HOE.out HK8.out (by omega); have HBX8 : Hid (w8.heap[wB.heap.size]? = some (.cells #[.slice b0 xs.length c0, .slice b1 es.length c1] 26 (0, 0))) := (HK8.out.block _ (by omega) (by omega)).trans HBX.out; have HRB8 : Hid (w8.heap[w.heap.size]? = some (.cells #[.slice none 0 0, .slice none 0 0] 26 (0, 0))) := (HK8.out.block _ (by omega) (by omega)).trans HRB.out; have HKW8 : Hid (Kept blk w w8) := HK4.out.trans HK8.out; have hz8 : w4.heap.size ≤ w8.heap.size := HK8.out.size; have hzb8 : wB.heap.size < w8.heap.size := Nat.lt_of_lt_of_le hz4' hz8; have x8 : w8.cell? ⟨wB.heap.size, 0, none⟩ = some (.slice b0 xs.length c0) := (HK8.out.cell (p := ⟨wB.heap.size, 0, none⟩) (by dsimp only; omega) (by dsimp only; omega)).trans x0; clear hk8 hr8 has; simp only [Aff.cells]))
    all_goals
      generalize hw10 : w9.setCell ⟨wB.heap.size, 0, none⟩ (.slice b9 (xs.length + 1) c9) = w10
      have HB10 : Hid (w10.heap[wB.heap.size]? = some (.cells #[.slice b9 (xs.length + 1) c9, .slice b1 es.length c1] 26 (0, 0))) := by show _ = _; rw [← hw10]; exact set_box0 HB9.out _
      have HRB10 : Hid (w10.heap[w.heap.size]? = some (.cells #[.slice none 0 0, .slice none 0 0] 26 (0, 0))) := by show _ = _; rw [← hw10]; exact (Below.heap_setCell w9 ⟨wB.heap.size, 0, none⟩ _ w.heap.size (by dsimp only; omega)).trans HRB9.out
      have HR10 : Hid (RdAt w10 blk q8) := by rw [← hw10]; exact HR9.out.setNew (by omega) _ _
      have HK10 : Hid (Kept blk w w10) := by rw [← hw10]; exact HK9.out.setNew (by omega) _ _
      have HO10 : Hid (w10.ownsRow (w.heap.size + 1) 71 5 (.slice b9 (xs.length + 1) c9) (xs ++ [(⟨f, fr, st, ad, wh⟩ : Aff)]).length (affCells (xs ++ [(⟨f, fr, st, ad, wh⟩ : Aff)]))) := by rw [← hw10, List.length_append, affCells_append, affCells_one]; exact owns_set2 HO9.out HB9.out (by decide) _ _
      have HE10 : Hid (w10.ownsRow (w.heap.size + 1) 76 2 (.slice b1 es.length c1) es.length (entCells es)) := by rw [← hw10]; exact owns_set2 HE9.out HB9.out (by decide) _ _
      have HX10 : Hid (∀ a ∈ xs ++ [(⟨f, fr, st, ad, wh⟩ : Aff)], a.small) := by
        intro a ha
        rcases List.mem_append.1 ha with ha | ha
        · exact HXS.out a ha
        · rw [List.mem_singleton.1 ha]; exact HAS.out
      clear hw10 z0 z1 z2 x0 x1
      have r0 : w10.cell? ⟨w.heap.size, 0, none⟩ = some (.slice none 0 0) := by rw [cell_of_row _ _ 0 _ _ _ HRB10.out]; rfl
      have r1 : w10.cell? ⟨w.heap.size, 1, none⟩ = some (.slice none 0 0) := by rw [cell_of_row _ _ 1 _ _ _ HRB10.out]; rfl
      have u0 := Go.Joins.unfrozen_of_block HRB10.out 0
      have u1 := Go.Joins.unfrozen_of_block HRB10.out 1
      have t0 : w10.cell? ⟨wB.heap.size, 0, none⟩ = some (.slice b9 (xs.length + 1) c9) := by rw [cell_of_row _ _ 0 _ _ _ HB10.out]; rfl
      have t1 : w10.cell? ⟨wB.heap.size, 1, none⟩ = some (.slice b1 es.length c1) := by rw [cell_of_row _ _ 1 _ _ _ HB10.out]; rfl
      go_wp2
      refine bodyPost_ret (v := .agg #[.slice b9 (xs.length + 1) c9, .slice b1 es.length c1]) (by simp [results, Tryz.results18, go_sem, r0, r1]) rfl ⟨_, _, (xs ++ [(⟨f, fr, st, ad, wh⟩ : Aff)]), es, rfl, ?_, ?_, by simp; omega, by omega, HX10.out, HES.out, ⟨_, (HR10.out.setNew hlt _ _).setNew hlt _ _, by omega⟩, (HK10.out.setNew (Nat.le_refl _) _ _).setNew (Nat.le_refl _) _ _⟩
      · exact owns_lower (owns_set (owns_set HO10.out _ _ _ (by omega)) _ _ _ (by omega)) (by omega)
      · exact owns_lower (owns_set (owns_set HE10.out _ _ _ (by omega)) _ _ _ (by omega)) (by omega)
  | false =>
    cases hvb : (v == 1) with
    | true =>
      have x1o : ∀ o : Obj, (w4.drew.alloc o).cell? ⟨wB.heap.size, 1, none⟩ = some (.slice b1 es.length c1) := fun o => ((((Kept.refl blk w4).drewN 1).alloc o).cell (p := ⟨wB.heap.size, 1, none⟩) (by dsimp only; omega) (by dsimp only; omega)).trans x1
      go_wp2_with fail
      go_region_law (first
        | (have qm := HK8b; clear qm; refine step_append_own rfl (.tmp 20) (.tmp 27) 24 rfl (w.heap.size + 1) 76 i4 (.agg #[.string ⟨#[]⟩, .string ⟨#[]⟩]) 2 32 Tryz.underlying24 hi4 hz4 hs4 hb4 rfl (by decide) _ _ _ rfl (by exact HOE8.out.alloc _) ⟨_, 0, none⟩ 1 1 [.string sw, .string fl] rfl rfl (by exact news_cells (cs := #[.string sw, .string fl]) (heap_alloc_last _ _)) (by simp [Value.oneCell']) (by unfold maxLen; omega) (by omega) (by simp; omega) ?_; intro v' w9 hown hgrow hnil; have HB9 : Hid (w9.heap[wB.heap.size]? = some (.cells #[.slice b0 xs.length c0, .slice b1 es.length c1] 26 (0, 0))) := (hgrow.block wB.heap.size (by simp; omega) (owns_block_ne HOE8.out HBX8.out (by decide))).trans (box_past HBX8.out); have HRB9 : Hid (w9.heap[w.heap.size]? = some (.cells #[.slice none 0 0, .slice none 0 0] 26 (0, 0))) := (hgrow.block w.heap.size (by simp; omega) (owns_block_ne HOE8.out HRB8.out (by decide))).trans (box_past HRB8.out); have z0 := cell_of_row _ _ 0 _ _ _ HB9.out; have z1 := cell_of_row _ _ 1 _ _ _ HB9.out; have z2 := Go.Joins.unfrozen_of_block HB9.out 1; simp at z0 z1; have HR9 : Hid (RdAt w9 blk (q8 + 1)) := rd_grown (rd_past HR8b.out) hgrow (fun j hj => by have := own_block_ge HOE8.out j hj; omega); have HK9 : Hid (Kept blk w w9) := kept_grown (HKW8.out.alloc _) (owns_past HOE8.out) (by omega) hgrow; have HO9 : Hid (w9.ownsRow (w.heap.size + 1) 76 2 v' (es.length + 1) (entCells es ++ [.string sw, .string fl])) := hown; have HE9 : Hid (w9.ownsRow (w.heap.size + 1) 71 5 (.slice b0 xs.length c0) xs.length (affCells xs)) := owns_apart (owns_past HOA8.out) (owns_past HOE8.out) (by decide) hgrow; clear hgrow hnil; obtain ⟨b9, c9, hv9⟩ := owns_form hown; subst hv9; clear hown)
        | (go_simp; go_at_call 40; (first | refine (of_any (fun s => s.size ≤ 20) w8 blk q8 w4.heap.size 4 4 HR8.out (by omega) (by omega) (by omega) HL8.out (by omega)).mono ?_ | refine (of_any (fun s => s.size ≤ 20) _ blk q8 _ 4 4 (by exact HR8.out.alloc _) (by omega) (by omega) (by omega) (by intro i hi; refine lit_texts 20 _ _ _ ?_ i hi; decide +kernel) (by have := HR8.out.lt; omega)).mono ?_); rintro e w8b ⟨fl, rfl, hfl, hr8b, hk8b⟩; have HK8b : Hid (Kept blk w4 w8b) := (by first | exact HK8.out.trans hk8b | exact (HK8.out.alloc _).trans hk8b); have HR8b : Hid (RdAt w8b blk (q8 + 1)) := hr8b; have HOA8 : Hid (w8b.ownsRow (w.heap.size + 1) 71 5 (.slice b0 xs.length c0) xs.length (affCells xs)) := owns_kept HOA.out HK8b.out (by omega); have HOE8 : Hid (w8b.ownsRow (w.heap.size + 1) 76 2 (.slice b1 es.length c1) es.length (entCells es)) := owns_kept HOE.out HK8b.out (by omega); have HBX8 : Hid (w8b.heap[wB.heap.size]? = some (.cells #[.slice b0 xs.length c0, .slice b1 es.length c1] 26 (0, 0))) := (HK8b.out.block _ (by omega) (by omega)).trans HBX.out; have HRB8 : Hid (w8b.heap[w.heap.size]? = some (.cells #[.slice none 0 0, .slice none 0 0] 26 (0, 0))) := (HK8b.out.block _ (by omega) (by omega)).trans HRB.out; have HKW8 : Hid (Kept blk w w8b) := HK4.out.trans HK8b.out; have hz8b : w4.heap.size ≤ w8b.heap.size := HK8b.out.size; have hzb8 : wB.heap.size < w8b.heap.size := Nat.lt_of_lt_of_le hz4' hz8b; have x8 : w8b.cell? ⟨wB.heap.size, 1, none⟩ = some (.slice b1 es.length c1) := (HK8b.out.cell (p := ⟨wB.heap.size, 1, none⟩) (by dsimp only; omega) (by dsimp only; omega)).trans x1; have x8p : ∀ o : Obj, (w8b.alloc o).cell? ⟨wB.heap.size, 1, none⟩ = some (.slice b1 es.length c1) := (fun o => ((((Kept.refl blk w8b).alloc o).cell (p := ⟨wB.heap.size, 1, none⟩) (by dsimp only; omega) (by dsimp only; omega))).trans x8); clear hk8b hr8b)
        | (go_simp; go_at_call 39; refine (l13AnyWord_any _ blk (qa + 1) (HR4.out.drewN 1) (by omega)).mono ?_; rintro e w8 ⟨sw, rfl, hsw, ⟨q8, hr8, hq8⟩, hk8⟩; have HSW : Hid (sw.size ≤ 20) := hsw; have HK8 : Hid (Kept blk w4 w8) := kept_drew hk8; have HR8 : Hid (RdAt w8 blk q8) := hr8; have hz8 : w4.heap.size ≤ w8.heap.size := HK8.out.size; have x8a : w8.cell? ⟨wB.heap.size, 1, none⟩ = some (.slice b1 es.length c1) := (HK8.out.cell (p := ⟨wB.heap.size, 1, none⟩) (by dsimp only; omega) (by dsimp only; omega)).trans x1; have x8o : ∀ o : Obj, (w8.alloc o).cell? ⟨wB.heap.size, 1, none⟩ = some (.slice b1 es.length c1) := (fun o => ((((Kept.refl blk w8).alloc o).cell (p := ⟨wB.heap.size, 1, none⟩) (by dsimp only; omega) (by dsimp only; omega))).trans x8a); clear hk8 hr8 hsw)
        | (go_simp; go_at_call 39; refine (l13AnyWord_any _ blk (qa + 1) ((HR4.out.drewN 1).alloc _) (by omega)).mono ?_; rintro e w8 ⟨sw, rfl, hsw, ⟨q8, hr8, hq8⟩, hk8⟩; have HSW : Hid (sw.size ≤ 20) := hsw; have HK8 : Hid (Kept blk w4 w8) := (((Kept.refl blk w4).drewN 1).alloc _).trans hk8; have HL8 : Hid (∀ i, i < 4 → ∃ s : ByteArray, w8.cell? ⟨w4.heap.size, i, none⟩ = some (.string s) ∧ s.size ≤ 20) := (fun i hi => by have hh := lit_texts 20 (w4.drewN 1) #[.string ⟨#[]⟩, .string ⟨#[83, 71]⟩, .string ⟨#[115]⟩, .string ⟨#[65, 66, 67, 68, 69]⟩] 9 (by decide +kernel) i hi; obtain ⟨s, h1, h2⟩ := hh; exact ⟨s, (hk8.cell (p := ⟨w4.heap.size, i, none⟩) (by rw [World.size_alloc]; exact Nat.lt_succ_self _) (by dsimp only; omega)).trans h1, h2⟩); have HR8 : Hid (RdAt w8 blk q8) := hr8; have hz8 : w4.heap.size ≤ w8.heap.size := HK8.out.size; have x8a : w8.cell? ⟨wB.heap.size, 1, none⟩ = some (.slice b1 es.length c1) := (HK8.out.cell (p := ⟨wB.heap.size, 1, none⟩) (by dsimp only; omega) (by dsimp only; omega)).trans x1; have x8o : ∀ o : Obj, (w8.alloc o).cell? ⟨wB.heap.size, 1, none⟩ = some (.slice b1 es.length c1) := (fun o => ((((Kept.refl blk w8).alloc o).cell (p := ⟨wB.heap.size, 1, none⟩) (by dsimp only; omega) (by dsimp only; omega))).trans x8a); clear hk8 hr8 hsw))
      all_goals
        generalize hw10 : w9.setCell ⟨wB.heap.size, 1, none⟩ (.slice b9 (es.length + 1) c9) = w10
        have HB10 : Hid (w10.heap[wB.heap.size]? = some (.cells #[.slice b0 xs.length c0, .slice b9 (es.length + 1) c9] 26 (0, 0))) := by show _ = _; rw [← hw10]; exact set_box HB9.out _
        have HRB10 : Hid (w10.heap[w.heap.size]? = some (.cells #[.slice none 0 0, .slice none 0 0] 26 (0, 0))) := by show _ = _; rw [← hw10]; exact (Below.heap_setCell w9 ⟨wB.heap.size, 1, none⟩ _ w.heap.size (by dsimp only; omega)).trans HRB9.out
        have HR10 : Hid (RdAt w10 blk (q8 + 1)) := by rw [← hw10]; exact HR9.out.setNew (by omega) _ _
        have HK10 : Hid (Kept blk w w10) := by rw [← hw10]; exact HK9.out.setNew (by omega) _ _
        have HO10 : Hid (w10.ownsRow (w.heap.size + 1) 76 2 (.slice b9 (es.length + 1) c9) (es ++ [(sw, fl)]).length (entCells (es ++ [(sw, fl)]))) := by rw [← hw10, List.length_append, entCells_append]; exact owns_set2 HO9.out HB9.out (by decide) _ _
        have HE10 : Hid (w10.ownsRow (w.heap.size + 1) 71 5 (.slice b0 xs.length c0) xs.length (affCells xs)) := by rw [← hw10]; exact owns_set2 HE9.out HB9.out (by decide) _ _
        have HX10 : Hid (∀ e ∈ es ++ [(sw, fl)], e.1.size ≤ 20 ∧ e.2.size ≤ 20) := by
          intro a ha
          rcases List.mem_append.1 ha with ha | ha
          · exact HES.out a ha
          · rw [List.mem_singleton.1 ha]; exact ⟨HSW.out, hfl⟩
        clear hw10 z0 z1 z2 x0 x1
        have r0 : w10.cell? ⟨w.heap.size, 0, none⟩ = some (.slice none 0 0) := by rw [cell_of_row _ _ 0 _ _ _ HRB10.out]; rfl
        have r1 : w10.cell? ⟨w.heap.size, 1, none⟩ = some (.slice none 0 0) := by rw [cell_of_row _ _ 1 _ _ _ HRB10.out]; rfl
        have u0 := Go.Joins.unfrozen_of_block HRB10.out 0
        have u1 := Go.Joins.unfrozen_of_block HRB10.out 1
        have t0 : w10.cell? ⟨wB.heap.size, 0, none⟩ = some (.slice b0 xs.length c0) := by rw [cell_of_row _ _ 0 _ _ _ HB10.out]; rfl
        have t1 : w10.cell? ⟨wB.heap.size, 1, none⟩ = some (.slice b9 (es.length + 1) c9) := by rw [cell_of_row _ _ 1 _ _ _ HB10.out]; rfl
        go_wp2
        refine bodyPost_ret (v := .agg #[.slice b0 xs.length c0, .slice b9 (es.length + 1) c9]) (by simp [results, Tryz.results18, go_sem, r0, r1]) rfl ⟨_, _, xs, (es ++ [(sw, fl)]), rfl, ?_, ?_, by omega, by simp; omega, HXS.out, HX10.out, ⟨_, (HR10.out.setNew hlt _ _).setNew hlt _ _, by omega⟩, (HK10.out.setNew (Nat.le_refl _) _ _).setNew (Nat.le_refl _) _ _⟩
        · exact owns_lower (owns_set (owns_set HE10.out _ _ _ (by omega)) _ _ _ (by omega)) (by omega)
        · exact owns_lower (owns_set (owns_set HO10.out _ _ _ (by omega)) _ _ _ (by omega)) (by omega)
    | false =>
      cases hvc : (v == 2) with
      | true =>
        by_cases hle : (0 : Int) < (es.length : Int)
        · obtain ⟨s0, f0, rest, he0⟩ : ∃ s0 f0 rest, es = (s0, f0) :: rest := by
            cases es with
            | nil => simp at hle
            | cons a r => exact ⟨a.1, a.2, r, rfl⟩
          have HE0 : Hid (es = (s0, f0) :: rest) := he0
          clear he0
          obtain ⟨g, cg, cs, hvg, hg, hbg, hcg⟩ := ents_head HOE.out HE0.out
          simp only [Value.slice.injEq, true_and] at hvg
          obtain ⟨rfl, rfl⟩ := hvg
          have hgl := lt_of_block hbg
          have hgB : wB.heap.size ≠ g := fun e => owns_block_ne HOE.out HBX.out (by decide) (by simp [Value.ownBlock, e])
          have HBG : Hid (w4.heap[g]? = some (.cells cs 76 (0, 0)) ∧ cs[0]? = some (.string s0)) := ⟨hbg, hcg⟩
          clear hbg hcg
          go_wp2_with fail
          go_region_law (go_simp; go_at_call 40; refine (of_any (fun s => s.size ≤ 20) _ blk (qa + 1) _ 3 3 (by exact (HR4.out.drewN 1).alloc _) (by omega) (by omega) (by omega) (by intro i hi; refine lit_texts 20 _ _ _ ?_ i hi; decide +kernel) (by first | omega | (simp; omega))).mono ?_; rintro e w8 ⟨fl, rfl, hfl, hr8, hk8⟩; have HK8 : Hid (Kept blk w4 w8) := (((Kept.refl blk w4).drewN 1).alloc _).trans hk8; have HR8 : Hid (RdAt w8 blk (qa + 1 + 1)) := hr8; have HG8 : Hid (w8.heap[g]? = some (.cells cs 76 (0, 0))) := (HK8.out.block g hgl (by omega)).trans HBG.out.1; have g0 : w8.cell? ⟨g, 0, none⟩ = some (.string s0) := (cell_of_row _ _ 0 _ _ _ HG8.out).trans HBG.out.2; have g1 := Go.Joins.unfrozen_of_block HG8.out 0; have x8 : w8.cell? ⟨wB.heap.size, 1, none⟩ = some (.slice (some ⟨g, 0, none⟩) es.length c1) := (HK8.out.cell (p := ⟨wB.heap.size, 1, none⟩) (by dsimp only; omega) (by dsimp only; omega)).trans x1; clear hr8 hk8)
          all_goals
            generalize hw10 : w8.setCell ⟨g, 0, none⟩ (.string fl) = w10
            have HB10 : Hid (w10.heap[wB.heap.size]? = some (.cells #[.slice b0 xs.length c0, .slice (some ⟨g, 0, none⟩) es.length c1] 26 (0, 0))) := by show _ = _; rw [← hw10]; exact (Below.heap_setCell w8 ⟨g, 0, none⟩ _ wB.heap.size (by dsimp only; omega)).trans ((HK8.out.block _ (by omega) (by omega)).trans HBX.out)
            have HRB10 : Hid (w10.heap[w.heap.size]? = some (.cells #[.slice none 0 0, .slice none 0 0] 26 (0, 0))) := by show _ = _; rw [← hw10]; exact (Below.heap_setCell w8 ⟨g, 0, none⟩ _ w.heap.size (by dsimp only; omega)).trans ((HK8.out.block _ (by omega) (by omega)).trans HRB.out)
            have HR10 : Hid (RdAt w10 blk (qa + 1 + 1)) := by rw [← hw10]; exact HR8.out.setNew (by omega) _ _
            have HK10 : Hid (Kept blk w w10) := by rw [← hw10]; exact (HK4.out.trans HK8.out).setNew (by omega) _ _
            have HO10 : Hid (w10.ownsRow (w.heap.size + 1) 76 2 (.slice (some ⟨g, 0, none⟩) es.length c1) ((fl, f0) :: rest).length (entCells ((fl, f0) :: rest))) := by rw [← hw10]; exact ents_poke (owns_kept HOE.out HK8.out (by omega)) HE0.out fl
            have HE10 : Hid (w10.ownsRow (w.heap.size + 1) 71 5 (.slice b0 xs.length c0) xs.length (affCells xs)) := by rw [← hw10]; exact owns_set2 (owns_kept HOA.out HK8.out (by omega)) HG8.out (by decide) _ _
            have HX10 : Hid (∀ e ∈ (fl, f0) :: rest, e.1.size ≤ 20 ∧ e.2.size ≤ 20) := by
              intro a ha
              have hall := HES.out
              rw [HE0.out] at hall
              rcases List.mem_cons.1 ha with rfl | ha
              · exact ⟨hfl, (hall (s0, f0) (by simp)).2⟩
              · exact hall a (by simp [ha])
            have HL10 : Hid (((fl, f0) :: rest).length ≤ 25) := by
              have hl := congrArg List.length HE0.out
              simp only [List.length_cons] at hl
              show _ ≤ _
              simp only [List.length_cons]
              omega
            clear hw10 g0 g1 x0 x1 x8
            have r0 : w10.cell? ⟨w.heap.size, 0, none⟩ = some (.slice none 0 0) := by rw [cell_of_row _ _ 0 _ _ _ HRB10.out]; rfl
            have r1 : w10.cell? ⟨w.heap.size, 1, none⟩ = some (.slice none 0 0) := by rw [cell_of_row _ _ 1 _ _ _ HRB10.out]; rfl
            have u0 := Go.Joins.unfrozen_of_block HRB10.out 0
            have u1 := Go.Joins.unfrozen_of_block HRB10.out 1
            have t0 : w10.cell? ⟨wB.heap.size, 0, none⟩ = some (.slice b0 xs.length c0) := by rw [cell_of_row _ _ 0 _ _ _ HB10.out]; rfl
            have t1 : w10.cell? ⟨wB.heap.size, 1, none⟩ = some (.slice (some ⟨g, 0, none⟩) es.length c1) := by rw [cell_of_row _ _ 1 _ _ _ HB10.out]; rfl
            go_wp2
            refine bodyPost_ret (v := .agg #[.slice b0 xs.length c0, .slice (some ⟨g, 0, none⟩) es.length c1]) (by simp [results, Tryz.results18, go_sem, r0, r1]) rfl ⟨_, _, xs, ((fl, f0) :: rest), rfl, ?_, ?_, by omega, HL10.out, HXS.out, HX10.out, ⟨_, (HR10.out.setNew hlt _ _).setNew hlt _ _, by omega⟩, (HK10.out.setNew (Nat.le_refl _) _ _).setNew (Nat.le_refl _) _ _⟩
            · exact owns_lower (owns_set (owns_set HE10.out _ _ _ (by omega)) _ _ _ (by omega)) (by omega)
            · exact owns_lower (owns_set (owns_set HO10.out _ _ _ (by omega)) _ _ _ (by omega)) (by omega)
        · skip
          have r0 : w4.cell? ⟨w.heap.size, 0, none⟩ = some (.slice none 0 0) := by rw [cell_of_row _ _ 0 _ _ _ HRB.out]; rfl
          have r1 : w4.cell? ⟨w.heap.size, 1, none⟩ = some (.slice none 0 0) := by rw [cell_of_row _ _ 1 _ _ _ HRB.out]; rfl
          have u0 := Go.Joins.unfrozen_of_block HRB.out 0
          have u1 := Go.Joins.unfrozen_of_block HRB.out 1
          have t0 : w4.cell? ⟨wB.heap.size, 0, none⟩ = some (.slice b0 xs.length c0) := by rw [cell_of_row _ _ 0 _ _ _ HBX.out]; rfl
          have t1 : w4.cell? ⟨wB.heap.size, 1, none⟩ = some (.slice b1 es.length c1) := by rw [cell_of_row _ _ 1 _ _ _ HBX.out]; rfl
          go_wp2
          refine bodyPost_ret (v := .agg #[.slice b0 xs.length c0, .slice b1 es.length c1]) (by simp [results, Tryz.results18, go_sem, r0, r1]) rfl ⟨_, _, xs, es, rfl, ?_, ?_, by omega, by omega, HXS.out, HES.out, ⟨_, (HR4.out.setNew hlt _ _).setNew hlt _ _, by omega⟩, (HK4.out.setNew (Nat.le_refl _) _ _).setNew (Nat.le_refl _) _ _⟩
          · exact owns_lower (owns_set (owns_set HOA.out _ _ _ (by omega)) _ _ _ (by omega)) (by omega)
          · exact owns_lower (owns_set (owns_set HOE.out _ _ _ (by omega)) _ _ _ (by omega)) (by omega)
      | false =>
        have r0 : w4.cell? ⟨w.heap.size, 0, none⟩ = some (.slice none 0 0) := by rw [cell_of_row _ _ 0 _ _ _ HRB.out]; rfl
        have r1 : w4.cell? ⟨w.heap.size, 1, none⟩ = some (.slice none 0 0) := by rw [cell_of_row _ _ 1 _ _ _ HRB.out]; rfl
        have u0 := Go.Joins.unfrozen_of_block HRB.out 0
        have u1 := Go.Joins.unfrozen_of_block HRB.out 1
        have t0 : w4.cell? ⟨wB.heap.size, 0, none⟩ = some (.slice b0 xs.length c0) := by rw [cell_of_row _ _ 0 _ _ _ HBX.out]; rfl
        have t1 : w4.cell? ⟨wB.heap.size, 1, none⟩ = some (.slice b1 es.length c1) := by rw [cell_of_row _ _ 1 _ _ _ HBX.out]; rfl
        go_wp2
        refine bodyPost_ret (v := .agg #[.slice b0 xs.length c0, .slice b1 es.length c1]) (by simp [results, Tryz.results18, go_sem, r0, r1]) rfl ⟨_, _, xs, es, rfl, ?_, ?_, by omega, by omega, HXS.out, HES.out, ⟨_, (HR4.out.setNew hlt _ _).setNew hlt _ _, by omega⟩, (HK4.out.setNew (Nat.le_refl _) _ _).setNew (Nat.le_refl _) _ _⟩
        · exact owns_lower (owns_set (owns_set HOA.out _ _ _ (by omega)) _ _ _ (by omega)) (by omega)
        · exact owns_lower (owns_set (owns_set HOE.out _ _ _ (by omega)) _ _ _ (by omega)) (by omega)
end Go.Proofs.YtcmajekdalcjeaaGreat
