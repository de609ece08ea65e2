/-
  Rows of affixes that the call makes; impl.taken.
-/
import Derived.Test.YthedglgljehmgaaGreatDoorShelf
import Derived.Test.YthedglgljehmgaaGreatDoorGW131
import Derived.Test.YthedglgljehmgaaGreatDoorW129
import Derived.Test.YthedglgljehmgaaGreatDoorGW27
import Derived.Lib.IndexAny
namespace Go.Proofs.YthedglgljehmgaaGreatDoor
open Go.RowKit
set_option linter.unusedVariables false
theorem flagIn_one (fl : ByteArray) (c : UInt8) : flagIn fl ⟨#[c]⟩ = decide (0 ≤ Lib.indexByte fl.data.toList c) := by
  rw [← Lib.contains_iff_indexByte, Bool.eq_iff_iff]
  unfold flagIn
  simp only [List.any_eq_true, List.mem_range, List.contains_iff_mem]
  constructor
  · rintro ⟨i, hi, h⟩
    rw [beq_iff_eq, ByteArray.toList_eq, ByteArray.toList_eq, (extract_one fl i hi).1] at h
    have : fl[i] = c := by simpa using h
    rw [← this]
    exact List.mem_iff_getElem.2 ⟨i, by simpa using hi, rfl⟩
  · intro h
    obtain ⟨i, hi, h⟩ := List.mem_iff_getElem.1 h
    have hi' : i < fl.size := by simpa using hi
    refine ⟨i, hi', ?_⟩
    rw [beq_iff_eq, ByteArray.toList_eq, ByteArray.toList_eq, (extract_one fl i hi').1]
    have : fl[i] = c := h
    simp [this]
theorem flag_one {a : Aff} (h : affOk a = true) : ∃ c, a.flag = ⟨#[c]⟩ := by
  simp only [affOk, Bool.and_eq_true, flagT, decide_eq_true_eq] at h
  have h1 : a.flag.size = 1 := by have := h.1.1; omega
  generalize a.flag = f at h1
  obtain ⟨⟨l⟩⟩ := f
  have h2 : l.length = 1 := h1
  obtain ⟨c, rfl⟩ := List.length_eq_one_iff.1 h2
  exact ⟨c, rfl⟩
theorem taEE2 (v : Value) (w : World) : (Instr.typeAssert (.iface 117 v) 132 117 true).run Tryz.prog w = .ok (.tuple #[v, .bool true]) w := by kernel_rfl
theorem taBE2 (v : Value) (w : World) : (Instr.typeAssert (.iface 120 v) 132 117 true).run Tryz.prog w = .ok (.tuple #[.agg #[.string ⟨#[]⟩, .bool false, .string ⟨#[]⟩, .string ⟨#[]⟩, .string ⟨#[]⟩], .bool false]) w := by kernel_rfl
theorem taBB2 (v : Value) (w : World) : (Instr.typeAssert (.iface 120 v) 132 120 true).run Tryz.prog w = .ok (.tuple #[v, .bool true]) w := by kernel_rfl
theorem Tryz.info_ending : (Tryz.prog.info? 117).map (fun i => (i.zero, i.size, i.bytes)) = some (some (.agg #[.string ⟨#[]⟩, .bool false, .string ⟨#[]⟩, .string ⟨#[]⟩, .string ⟨#[]⟩]), 5, 72) := by kernel_rfl
theorem Tryz.info_beginning : (Tryz.prog.info? 120).map (fun i => (i.zero, i.size, i.bytes)) = some (some (.agg #[.string ⟨#[]⟩, .bool false, .string ⟨#[]⟩, .string ⟨#[]⟩, .string ⟨#[]⟩]), 5, 72) := by kernel_rfl
theorem taken_take {xs : List Aff} {p : Aff → Bool} {k : Nat} {x : Aff} (hx : xs[k]? = some x) : (xs.take (k + 1)).filter p = (xs.take k).filter p ++ if p x then [x] else [] := by
  rw [List.take_add_one, hx, List.filter_append]
  simp only [Option.toList_some, List.filter_cons, List.filter_nil]
theorem filter_le {xs : List Aff} (p : Aff → Bool) (k : Nat) : ((xs.take k).filter p).length ≤ xs.length := Nat.le_trans (List.length_filter_le _ _) (List.length_take_le' _ _)
/-- The rows that taken makes. -/
def TakenAt (lo : Nat) (w : World) (ve vb : Value) (ys zs : List Aff) : Prop :=
  w.ownsRow lo 117 5 ve ys.length (affCells ys) ∧ w.ownsRow lo 120 5 vb zs.length (affCells zs)
set_option maxRecDepth 100000 in
set_option maxHeartbeats 600000 in
theorem taken_any (w : World) (va : Value) (xs : List Aff) (fl : ByteArray) (ha : AffsAt w va xs) (hok : ∀ a ∈ xs, affOk a = true) (hn : xs.length ≤ 8) :
    Calls Tryz.prog 73 #[va, .string fl] w fun e w' => ∃ ve vb, e = .returned (.tuple #[ve, vb]) ∧ TakenAt w.heap.size w' ve vb (xs.filter (tkB fl false)) (xs.filter (tkB fl true)) ∧ Below w.heap.size w w' := by
  obtain ⟨a, cap, rfl, hc, hmx⟩ := ha.form
  have HA : Hid (AffsAt w (.slice a xs.length cap) xs) := ha
  have HOK : Hid (∀ a ∈ xs, affOk a = true) := hok
  obtain ⟨ie, hie, hez, hes, heb⟩ := info_parts Tryz.info_ending
  obtain ⟨ib, hib, hbz, hbs, hbb⟩ := info_parts Tryz.info_beginning
  have ht1 := taEE2
  have ht2 := taBE2
  have ht3 := taBB2
  clear ha hok
  unfold maxLen at hmx
  go_enter Tryz.func73, Tryz.ntmps73
  go_wp2
  go_loopw [6, 7, 14] (fun ve vb i wr => ∃ (k : Nat), k ≤ xs.length ∧ i = .int .i64 k ∧ TakenAt w.heap.size wr ve vb ((xs.take k).filter (tkB fl false)) ((xs.take k).filter (tkB fl true)) ∧ Below w.heap.size w wr) (fun _ _ i _ => xs.length - (intOf i).toNat)
  case atStart => exact ⟨0, Nat.zero_le _, rfl, ⟨World.ownsRow_nil _ _ _ _, World.ownsRow_nil _ _ _ _⟩, Below.refl _ _⟩
  case round =>
    obtain ⟨k, hk, rfl, ht, hb⟩ := hrel
    have HT : Hid (TakenAt w.heap.size wr u6 u7 ((xs.take k).filter (tkB fl false)) ((xs.take k).filter (tkB fl true))) := ht
    have HB : Hid (Below w.heap.size w wr) := hb
    clear ht hb
    by_cases hlt : k < xs.length
    · obtain ⟨b, off, cap', x, hv, hbl, hx, hxf, e0, e1, e2, e3, e4⟩ := (HA.out.below HB.out).at hlt
      cases hv
      have HN : Hid (∀ p, (xs.take (k + 1)).filter p = (xs.take k).filter p ++ if p x then [x] else []) := fun p => taken_take hx
      have HXO : affOk x = true := HOK.out x (List.mem_of_getElem? hx)
      obtain ⟨c, hfc⟩ := flag_one HXO
      obtain ⟨f, fr, st, ad, wh⟩ := x
      simp only at hfc e0 e1 e2 e3 e4
      subst hfc
      have hfi := flagIn_one fl c
      clear hx hxf HXO
      cases hin : flagIn fl ⟨#[c]⟩ with
      | false =>
        have HO : Hid (∀ fr', tkB fl fr' ⟨⟨#[c]⟩, fr, st, ad, wh⟩ = false) := fun fr' => by simp [tkB, hin]
        rw [hin] at hfi
        have HCN : Hid (∀ w : World, Calls Tryz.prog 92 #[.string fl, .string ⟨#[c]⟩] w fun e w' => e = .returned (.bool false) ∧ w' = w) := fun w => by rw [hfi]; exact Tryz.strings_Contains_one fl c w
        clear hfi hin
        go_wp2_with fail
        refine (HCN.out _).mono ?_
        rintro e w1 ⟨rfl, he⟩
        rw [he]
        clear he
        go_wp2
        go_roundw
        case rel =>
          refine ⟨k + 1, by omega, by go_num, ?_, HB.out.alloc HB.out.size _⟩
          rw [HN.out, HN.out, HO.out, HO.out]
          simp only [Bool.false_eq_true, if_false, List.append_nil]
          exact ⟨HT.out.1.alloc _, HT.out.2.alloc _⟩
        case measure => simp [intOf]; omega
      | true =>
        rw [hin] at hfi
        have HCN : Hid (∀ w : World, Calls Tryz.prog 92 #[.string fl, .string ⟨#[c]⟩] w fun e w' => e = .returned (.bool true) ∧ w' = w) := fun w => by rw [hfi]; exact Tryz.strings_Contains_one fl c w
        cases fr with
        | false =>
          have HO1 : Hid (tkB fl false ⟨⟨#[c]⟩, false, st, ad, wh⟩ = true) := by show tkB _ _ _ = _; simp [tkB, hin]
          have HO2 : Hid (tkB fl true ⟨⟨#[c]⟩, false, st, ad, wh⟩ = false) := by show tkB _ _ _ = _; simp [tkB, hin]
          clear hfi hin
          go_wp2_with fail
          refine (HCN.out _).mono ?_
          rintro e w1 ⟨rfl, he⟩
          rw [he]
          clear he
          go_wp2_with fail
          refine (sideEnd_any ⟨#[c]⟩ st ad wh _).mono ?_
          rintro e w2 ⟨rfl, hb2⟩
          have HB2 : Hid (Below wr.heap.size wr w2) := ((Below.refl _ _).alloc (Nat.le_refl _) _).trans (hb2.mono (by simp))
          have HR1 : Hid (w2.ownsRow w.heap.size 117 5 u6 ((xs.take k).filter (tkB fl false)).length (affCells ((xs.take k).filter (tkB fl false)))) := owns_below HT.out.1 HB2.out
          have HR2 : Hid (w2.ownsRow w.heap.size 120 5 u7 ((xs.take k).filter (tkB fl true)).length (affCells ((xs.take k).filter (tkB fl true)))) := owns_below HT.out.2 HB2.out
          obtain ⟨a1, cap1, rfl⟩ := owns_form HR1.out
          have hw2 : w.heap.size ≤ w2.heap.size := Nat.le_trans HB.out.size HB2.out.size
          have hl1 := filter_le (xs := xs) (tkB fl false) k
          clear hb2
          go_wp2_with (at_builtin; refine wpList_append_own _ rfl _ _ 112 rfl w.heap.size 117 ie (.agg #[.string ⟨#[]⟩, .bool false, .string ⟨#[]⟩, .string ⟨#[]⟩, .string ⟨#[]⟩]) 5 72 Tryz.underlying112 hie hez hes heb rfl (by decide) _ _ _ rfl ((HR1.out.alloc _).alloc _) ⟨_, 0, none⟩ 1 1 [.string ⟨#[c]⟩, .bool false, .string st, .string ad, .string wh] rfl rfl (news_cells (cs := #[.string ⟨#[c]⟩, .bool false, .string st, .string ad, .string wh]) (heap_second _ _ _)) (by simp [Value.oneCell']) (by unfold maxLen; omega) (by omega) (by rw [World.size_alloc, World.size_alloc]; omega) ?_; intro v' w3 hown hgrow hnil; have hk1 := ((HR2.out.alloc _).alloc _).kept hgrow (rows_apart HR2.out HR1.out (by decide)); have HB3 : Hid (Below w.heap.size w w3) := Below.grown (((HB.out.trans (HB2.out.mono HB.out.size)).alloc hw2 _).alloc (by rw [World.size_alloc]; omega) _) hgrow (by rw [World.size_alloc, World.size_alloc]; omega) (own_block_ge HR1.out); clear hgrow hnil)
          go_roundw
          case rel =>
            refine ⟨k + 1, by omega, by go_num, ?_, HB3.out⟩
            rw [HN.out, HN.out, HO1.out, HO2.out]
            exact ⟨by rw [if_pos rfl, List.length_append, affCells_append, affCells_one]; exact hown, by simpa only [Bool.false_eq_true, if_false, List.append_nil] using hk1⟩
          case measure => simp [intOf]; omega
        | true =>
          have HO1 : Hid (tkB fl false ⟨⟨#[c]⟩, true, st, ad, wh⟩ = false) := by show tkB _ _ _ = _; simp [tkB, hin]
          have HO2 : Hid (tkB fl true ⟨⟨#[c]⟩, true, st, ad, wh⟩ = true) := by show tkB _ _ _ = _; simp [tkB, hin]
          clear hfi hin
          go_wp2_with fail
          refine (HCN.out _).mono ?_
          rintro e w1 ⟨rfl, he⟩
          rw [he]
          clear he
          go_wp2_with fail
          refine (sideBeg_any ⟨#[c]⟩ st ad wh _).mono ?_
          rintro e w2 ⟨rfl, hb2⟩
          have HB2 : Hid (Below wr.heap.size wr w2) := ((Below.refl _ _).alloc (Nat.le_refl _) _).trans (hb2.mono (by simp))
          have HR1 : Hid (w2.ownsRow w.heap.size 120 5 u7 ((xs.take k).filter (tkB fl true)).length (affCells ((xs.take k).filter (tkB fl true)))) := owns_below HT.out.2 HB2.out
          have HR2 : Hid (w2.ownsRow w.heap.size 117 5 u6 ((xs.take k).filter (tkB fl false)).length (affCells ((xs.take k).filter (tkB fl false)))) := owns_below HT.out.1 HB2.out
          obtain ⟨a1, cap1, rfl⟩ := owns_form HR1.out
          have hw2 : w.heap.size ≤ w2.heap.size := Nat.le_trans HB.out.size HB2.out.size
          have hl1 := filter_le (xs := xs) (tkB fl true) k
          clear hb2
          go_wp2_with (at_builtin; refine wpList_append_own _ rfl _ _ 113 rfl w.heap.size 120 ib (.agg #[.string ⟨#[]⟩, .bool false, .string ⟨#[]⟩, .string ⟨#[]⟩, .string ⟨#[]⟩]) 5 72 Tryz.underlying113 hib hbz hbs hbb rfl (by decide) _ _ _ rfl ((HR1.out.alloc _).alloc _) ⟨_, 0, none⟩ 1 1 [.string ⟨#[c]⟩, .bool true, .string st, .string ad, .string wh] rfl rfl (news_cells (cs := #[.string ⟨#[c]⟩, .bool true, .string st, .string ad, .string wh]) (heap_second _ _ _)) (by simp [Value.oneCell']) (by unfold maxLen; omega) (by omega) (by rw [World.size_alloc, World.size_alloc]; omega) ?_; intro v' w3 hown hgrow hnil; have hk1 := ((HR2.out.alloc _).alloc _).kept hgrow (rows_apart HR2.out HR1.out (by decide)); have HB3 : Hid (Below w.heap.size w w3) := Below.grown (((HB.out.trans (HB2.out.mono HB.out.size)).alloc hw2 _).alloc (by rw [World.size_alloc]; omega) _) hgrow (by rw [World.size_alloc, World.size_alloc]; omega) (own_block_ge HR1.out); clear hgrow hnil)
          go_roundw
          case rel =>
            refine ⟨k + 1, by omega, by go_num, ?_, HB3.out⟩
            rw [HN.out, HN.out, HO1.out, HO2.out]
            exact ⟨by simpa only [Bool.false_eq_true, if_false, List.append_nil] using hk1, by rw [if_pos rfl, List.length_append, affCells_append, affCells_one]; exact hown⟩
          case measure => simp [intOf]; omega
    · have hke : k = xs.length := by omega
      subst hke
      go_wp2
      go_ret2
      refine ⟨_, _, rfl, ?_, HB.out⟩
      have := HT.out
      rwa [List.take_length] at this
end Go.Proofs.YthedglgljehmgaaGreatDoor
