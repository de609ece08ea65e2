/-
  PatternPut of both; the law FnExactPatternPut.
-/
import Derived.Test.YtehpdlokacdifaaW342
import Derived.Test.YtehpdlokacdifaaW343
import Derived.Laws.BytesArg
import Derived.Deep.RegionHeld3
namespace Go.Proofs.Ytehpdlokacdifaa
open Go.RowKit
set_option linter.unusedVariables false
theorem ret_str3 {a b : ByteArray} (h : a = b) : Ending.returned (.string a) = .returned (.string b) := by rw [h]
/-- What one number, and the letter behind it, are written as. -/
def pieceP (l : List UInt8) (ns : List Int) (k : Nat) : List UInt8 := (if ns.getD k 0 = 0 then [] else [UInt8.ofNat (48 + (ns.getD k 0).toNat)]) ++ (l.drop k).take 1
def putTo (l : List UInt8) (ns : List Int) : Nat → List UInt8
  | 0 => []
  | k + 1 => putTo l ns k ++ pieceP l ns k
theorem putTo_len (l : List UInt8) (ns : List Int) : ∀ k, (putTo l ns k).length ≤ 2 * k
  | 0 => Nat.le_refl _
  | k + 1 => by
    have h := putTo_len l ns k
    have h2 : (pieceP l ns k).length ≤ 2 := by
      unfold pieceP
      rw [List.length_append]
      have : ((l.drop k).take 1).length ≤ 1 := List.length_take_le _ _
      split <;> simp <;> omega
    rw [putTo, List.length_append]; omega
def putP (x : PatM) : ByteArray := ⟨(putTo x.1.data.toList x.2 x.2.length).toArray⟩
def ppT (x : PatM) : ByteArray := if patOk x then putP x else ⟨#[]⟩
theorem patOk_parts {s : ByteArray} {ns : List Int} (h : patOk (s, ns) = true) : 1 ≤ s.size ∧ s.size ≤ 8 ∧ ns.length = s.size + 1 ∧ ∀ (k : Nat) (x : Int), ns[k]? = some x → 0 ≤ x ∧ x ≤ 9 := by
  unfold patOk at h
  simp only [Bool.and_eq_true, decide_eq_true_eq] at h
  refine ⟨h.1, h.2.1, h.2.2.2.1, fun k x hx => ?_⟩
  have := List.all_eq_true.1 h.2.2.2.2 x (List.mem_of_getElem? hx)
  unfold inI at this
  simpa using this
theorem piece_at {l : List UInt8} {ns : List Int} {k : Nat} {x : Int} (hx : ns[k]? = some x) : pieceP l ns k = (if x = 0 then [] else [UInt8.ofNat (48 + x.toNat)]) ++ (l.drop k).take 1 := by
  unfold pieceP
  rw [List.getD_eq_getElem?_getD, hx]; rfl
theorem drop_in (s : ByteArray) (k : Nat) (h : k < s.size) : (s.data.toList.drop k).take 1 = [s[k]] := by
  rw [List.drop_eq_getElem_cons (by simpa using h)]; rfl
theorem drop_out (s : ByteArray) (k : Nat) (h : ¬ k < s.size) : (s.data.toList.drop k).take 1 = [] := by
  rw [List.drop_of_length_le (by have : s.data.toList.length = s.size := rfl; omega)]; rfl
theorem bc_snoc (l : List UInt8) (b : UInt8) : Lib.byteCells (l ++ [b]) = Lib.byteCells l ++ [.int .u8 (b.toNat : Int)] := by simp [Lib.byteCells]
theorem fig_nat (x : Int) (h0 : 0 ≤ x) (h9 : x ≤ 9) : ((UInt8.ofNat (48 + x.toNat)).toNat : Int) = 48 + x := by
  rw [UInt8.toNat_ofNat']; omega
set_option maxHeartbeats 2000000 in
theorem implPatternPut_any (w : World) (v : Value) (x : PatM) (h : PatAt w v x) :
    Calls Try.prog 5 #[v] w fun e w' => e = .returned (.string (ppT x)) ∧ Below w.heap.size w w' := by
  have h9 := h
  obtain ⟨vn, rfl, hs0, hn⟩ := h
  obtain ⟨s, ns⟩ := x
  simp only at hs0 hn
  obtain ⟨a, cap, rfl, hc, hm⟩ := hn.form
  have HN : Hid (IntsAt w (.slice a ns.length cap) ns) := hn
  have HPA : Hid (PatAt w (.agg #[.string s, .slice a ns.length cap]) (s, ns)) := h9
  have HBX : Hid (Below w.heap.size w (w.alloc (.cells #[.string s, .slice a ns.length cap] 25))) := (Below.refl _ _).alloc (Nat.le_refl _) _
  clear hn h9
  go_enter Try.func5, Try.ntmps5
  go_wp2_with fail
  refine (implPatternOk_any _ _ (s, ns) (HPA.out.below HBX.out)).mono ?_
  rintro e w1 ⟨rfl, hb1⟩
  have c0 : w1.cell? ⟨w.heap.size, 0, none⟩ = some (.string s) := (hb1.cell (p := ⟨w.heap.size, 0, none⟩) (by simp)).trans (by simp [go_sem])
  have c1 : w1.cell? ⟨w.heap.size, 1, none⟩ = some (.slice a ns.length cap) := (hb1.cell (p := ⟨w.heap.size, 1, none⟩) (by simp)).trans (by simp [go_sem])
  have hz1 : w.heap.size < w1.heap.size := by have := hb1.size; simp at this; omega
  have HB1 : Hid (Below w.heap.size w w1) := HBX.out.trans (hb1.mono HBX.out.size)
  clear hb1
  cases hok : patOk (s, ns) with
  | false =>
    have HC : Hid (ppT (s, ns) = ⟨#[]⟩) := by show _ = _; simp [ppT, hok]
    clear c0 c1
    go_wp2
    go_ret
    exact ⟨ret_str3 (by rw [HC.out]), HB1.out⟩
  | true =>
    have HC : Hid (ppT (s, ns) = ⟨(putTo s.data.toList ns ns.length).toArray⟩) := by show _ = _; simp [ppT, hok, putP]
    obtain ⟨hp1, hp8, hpl, hpf⟩ := patOk_parts hok
    have HPF : Hid (∀ (k : Nat) (x : Int), ns[k]? = some x → 0 ≤ x ∧ x ≤ 9) := hpf
    have hnl : ns.length ≤ 9 := by omega
    obtain ⟨W1, hW1⟩ : ∃ W1, w1.alloc (.cells #[.pointer none, .slice none 0 0] 39) = W1 := ⟨_, rfl⟩
    have B1 : Hid (Below w1.heap.size w1 W1) := by show Below _ _ _; rw [← hW1]; exact (Below.refl _ _).alloc (Nat.le_refl _) _
    have I1 : Hid (Lib.IsBuilder 39 5 w1.heap.size w1.heap.size (Lib.byteCells []) W1) := by show Lib.IsBuilder _ _ _ _ _ _; rw [← hW1]; exact .inl ⟨Nat.le_refl _, .slice none 0 0, Go.Deep.blk_alloc_new _ _, World.ownsRow_nil .., by simp [Value.ownBlock]⟩
    have C0 : Hid (w1.cell? ⟨w.heap.size, 0, none⟩ = some (.string s)) := c0
    have C1 : Hid (w1.cell? ⟨w.heap.size, 1, none⟩ = some (.slice a ns.length cap)) := c1
    have d1 : W1.cell? ⟨w.heap.size, 1, none⟩ = some (.slice a ns.length cap) := (B1.out.cell (p := ⟨w.heap.size, 1, none⟩) hz1).trans c1
    clear hok hpf c0 c1
    go_wp2
    clear hW1 d1
    go_loopw [12] (fun i wr => ∃ (k : Nat), k ≤ ns.length ∧ i = .int .i64 k ∧ Lib.IsBuilder 39 5 w1.heap.size w1.heap.size (Lib.byteCells (putTo s.data.toList ns k)) wr ∧ Below w1.heap.size w1 wr) (fun i _ => ns.length - (intOf i).toNat)
    case atStart => exact ⟨0, Nat.zero_le _, rfl, I1.out, B1.out⟩
    case round =>
      obtain ⟨k, hk, rfl, hbd, hb⟩ := hrel
      have HB : Hid (Below w1.heap.size w1 wr) := hb
      have HBD : Hid (Lib.IsBuilder 39 5 w1.heap.size w1.heap.size (Lib.byteCells (putTo s.data.toList ns k)) wr) := hbd
      have HBw : Hid (Below w.heap.size w wr) := HB1.out.trans (hb.mono HB1.out.size)
      clear hb hbd
      by_cases hlt : k < ns.length
      · obtain ⟨b, off, cap9, x, hv, hbl, hx, e0⟩ := (HN.out.below HBw.out).at hlt
        cases hv
        have hx9 := HPF.out k x hx
        have HLEN : Hid ((putTo s.data.toList ns k).length ≤ 2 * k) := putTo_len _ _ _
        have HPC : Hid (pieceP s.data.toList ns k = (if x = 0 then [] else [UInt8.ofNat (48 + x.toNat)]) ++ (s.data.toList.drop k).take 1) := piece_at hx
        have HFN : Hid (((UInt8.ofNat (48 + x.toNat)).toNat : Int) = 48 + x) := fig_nat x hx9.1 hx9.2
        have hw8 : IntKind.u8.wrap x = x := by simp [IntKind.wrap, IntKind.bits, IntKind.signed]; omega
        have hw9 : IntKind.u8.wrap (48 + x) = 48 + x := by simp [IntKind.wrap, IntKind.bits, IntKind.signed]; omega
        have hz2 : w.heap.size < wr.heap.size := Nat.lt_of_lt_of_le hz1 HB.out.size
        have d0 := (HB.out.cell (p := ⟨w.heap.size, 0, none⟩) hz1).trans C0.out
        clear hx
        by_cases hx0 : x = 0
        · by_cases hks : k < s.size
          · have HST : Hid (putTo s.data.toList ns (k + 1) = putTo s.data.toList ns k ++ [s[k]]) := by
              show putTo _ _ (k + 1) = _
              rw [putTo, HPC.out, if_pos hx0, drop_in s k hks]; rfl
            have hx0' : ¬ (x ≠ 0) := fun h => h hx0
            have hks' : (k : Int) < (s.size : Int) := by omega
            go_wp2_with fail
            refine (writeByte_any w1.heap.size w1.heap.size _ _ _ HBD.out (by rw [Lib.byteCells_length]; have := HLEN.out; omega) HB.out.size).mono ?_
            rintro e w3 ⟨rfl, hbd3, hb3, _⟩
            have HB3 : Hid (Below w1.heap.size w1 w3) := HB.out.trans hb3
            have HBD3 : Hid (Lib.IsBuilder 39 5 w1.heap.size w1.heap.size (Lib.byteCells (putTo s.data.toList ns (k + 1))) w3) := by
              show Lib.IsBuilder _ _ _ _ _ _
              rw [HST.out, bc_snoc]; exact hbd3
            clear hbd3 hb3
            go_wp2
            go_roundw
            case rel => exact ⟨k + 1, by omega, by go_num, HBD3.out, HB3.out⟩
            case measure => simp [intOf]; omega
          · have HST : Hid (putTo s.data.toList ns (k + 1) = putTo s.data.toList ns k) := by
              show putTo _ _ (k + 1) = _
              rw [putTo, HPC.out, if_pos hx0, drop_out s k hks]; simp
            go_wp2_with fail
            go_roundw
            case rel => exact ⟨k + 1, by omega, by go_num, by rw [HST.out]; exact HBD.out, HB.out⟩
            case measure => simp [intOf]; omega
        · have hx0b : (x == 0) = false := by simpa using hx0
          go_wp2_with fail
          refine (writeByte_any w1.heap.size w1.heap.size _ _ _ HBD.out (by rw [Lib.byteCells_length]; have := HLEN.out; omega) HB.out.size).mono ?_
          rintro e w3 ⟨rfl, hbd3, hb3, _⟩
          have HB3 : Hid (Below w1.heap.size w1 w3) := HB.out.trans hb3
          have HBD3 : Hid (Lib.IsBuilder 39 5 w1.heap.size w1.heap.size (Lib.byteCells (putTo s.data.toList ns k ++ [UInt8.ofNat (48 + x.toNat)])) w3) := by
            show Lib.IsBuilder _ _ _ _ _ _
            rw [bc_snoc, HFN.out]; exact hbd3
          have d0' := (HB3.out.cell (p := ⟨w.heap.size, 0, none⟩) hz1).trans C0.out
          have hz3 : w.heap.size < w3.heap.size := Nat.lt_of_lt_of_le hz1 HB3.out.size
          clear hbd3 hb3 d0
          by_cases hks : k < s.size
          · have HST : Hid (putTo s.data.toList ns (k + 1) = putTo s.data.toList ns k ++ [UInt8.ofNat (48 + x.toNat)] ++ [s[k]]) := by
              show putTo _ _ (k + 1) = _
              rw [putTo, HPC.out, if_neg hx0, drop_in s k hks, List.append_assoc]
            have hks' : (k : Int) < (s.size : Int) := by omega
            go_wp2_with fail
            refine (writeByte_any w1.heap.size w1.heap.size _ _ _ HBD3.out (by rw [Lib.byteCells_length, List.length_append]; have := HLEN.out; simp; omega) HB3.out.size).mono ?_
            rintro e w4 ⟨rfl, hbd4, hb4, _⟩
            have HB4 : Hid (Below w1.heap.size w1 w4) := HB3.out.trans hb4
            have HBD4 : Hid (Lib.IsBuilder 39 5 w1.heap.size w1.heap.size (Lib.byteCells (putTo s.data.toList ns (k + 1))) w4) := by
              show Lib.IsBuilder _ _ _ _ _ _
              rw [HST.out, bc_snoc]; exact hbd4
            clear hbd4 hb4
            go_wp2
            go_roundw
            case rel => exact ⟨k + 1, by omega, by go_num, HBD4.out, HB4.out⟩
            case measure => simp [intOf]; omega
          · have HST : Hid (putTo s.data.toList ns (k + 1) = putTo s.data.toList ns k ++ [UInt8.ofNat (48 + x.toNat)]) := by
              show putTo _ _ (k + 1) = _
              rw [putTo, HPC.out, if_neg hx0, drop_out s k hks]; simp
            go_wp2_with fail
            go_roundw
            case rel => exact ⟨k + 1, by omega, by go_num, by rw [HST.out]; exact HBD3.out, HB3.out⟩
            case measure => simp [intOf]; omega
      · obtain rfl : k = ns.length := by omega
        go_wp2_with fail
        refine (Try.Builder_String_any _ _ (putTo s.data.toList ns ns.length) _ HBD.out HB.out.size).mono ?_
        rintro e w3 ⟨rfl, hb3⟩
        have HB3 : Hid (Below w.heap.size w w3) := HBw.out.trans (hb3.mono HB1.out.size)
        clear hb3
        go_wp2
        go_ret
        exact ⟨ret_str3 (by rw [HC.out, hpl]), HB3.out⟩
theorem conv_fig (j b : Nat) (x : Int) (hx : x = 48 + (j : Int)) (wx : World) (h : wx.cell? ⟨b, 0, none⟩ = some (.int .u8 x)) :
    (convert 22 9 (.slice (some ⟨b, 0, none⟩) 1 1)).run Try.prog wx = .ok (.string ⟨#[UInt8.ofNat (48 + j)]⟩) wx := by
  have h1 := run_convert_bytes_arg (P := Try.prog) wx 22 5 Try.underlying22 Try.underlying5 b 0 1 1 [48 + (j : Int)] rfl (fun i hi => by
    have : i = 0 := by omega
    subst this
    rw [← hx]
    exact h) 9 Try.underlying9
  rw [h1]
  have e : (48 + (j : Int)).toNat = 48 + j := by omega
  simp [strOfNums, e]
set_option maxHeartbeats 1000000 in
theorem l1Dec_digit (n : Int) (w : World) (h0 : 0 ≤ n) (h9 : n ≤ 9) :
    Calls Try.prog 28 #[.int .i64 n] w fun e w' => e = .returned (.string ⟨#[UInt8.ofNat (48 + n.toNat)]⟩) ∧ Below w.heap.size w w' := by
  obtain ⟨j, rfl⟩ := Int.eq_ofNat_of_zero_le h0
  have hw1 : IntKind.u8.wrap (48 + (j : Int)) = 48 + (j : Int) := by simp [IntKind.wrap, IntKind.bits, IntKind.signed]; omega
  obtain ⟨L, hL⟩ : ∃ L : ByteArray, (⟨#[UInt8.ofNat (48 + j)]⟩ : ByteArray) = L := ⟨_, rfl⟩
  have hc : ∀ (b : Nat) (x : Int), x = 48 + (j : Int) → ∀ wx : World, wx.cell? ⟨b, 0, none⟩ = some (.int .u8 x) → (convert 22 9 (.slice (some ⟨b, 0, none⟩) 1 1)).run Try.prog wx = .ok (.string L) wx := fun b x hx wx h => by rw [← hL]; exact conv_fig j b x hx wx h
  have HL : Hid (L = ⟨#[UInt8.ofNat (48 + (j : Int).toNat)]⟩) := by show L = _; rw [← hL]; simp
  have n1 : ¬ (j : Int) < -9223372036854775807 := by omega
  have n2 : ¬ (j : Int) < 0 := by omega
  have n3 : (j : Int) < 10 := by omega
  clear hL
  go_enter Try.func28, Try.ntmps28
  go_wp2_with fail
  go_ret
  exact ⟨ret_str3 (by rw [HL.out]; simp), (Below.refl _ _).alloc (Nat.le_refl _) _⟩
def putO (l : List UInt8) (ns : List Int) (k : Nat) : ByteArray := ⟨(putTo l ns k).toArray⟩
theorem putO_size (l : List UInt8) (ns : List Int) (k : Nat) : (putO l ns k).size ≤ 2 * k := by
  show (List.toArray _).size ≤ _
  rw [List.size_toArray]; exact putTo_len l ns k
theorem putO_zero (l : List UInt8) (ns : List Int) : putO l ns 0 = ⟨#[]⟩ := rfl
theorem join_list (a : List UInt8) (b : ByteArray) : (⟨a.toArray⟩ : ByteArray) ++ b = ⟨(a ++ b.data.toList).toArray⟩ := by
  apply ByteArray.ext
  apply Array.toList_inj.1
  rw [ByteArray.data_append, Array.toList_append]
theorem ext_one5 (s : ByteArray) (k : Nat) (h : k < s.size) : (s.extract k (k + 1)).data.toList = [s[k]] := by
  have e : s[k] = s.data.toList[k]'(by simpa using h) := rfl
  rw [e]
  simp only [ByteArray.data_extract, Array.toList_extract]
  rw [List.extract_eq_take_drop, show k + 1 - k = 1 by omega, List.drop_eq_getElem_cons (by simpa using h)]
  rfl
set_option maxHeartbeats 2000000 in
theorem l9Put_any (w : World) (v : Value) (s : ByteArray) (ns : List Int) (h : PatAt w v (s, ns)) (hok : patOk (s, ns) = true) :
    Calls Try.prog 18 #[v] w fun e w' => e = .returned (.string (putP (s, ns))) ∧ Below w.heap.size w w' := by
  obtain ⟨vn, rfl, hs0, hn⟩ := h
  simp only at hs0 hn
  obtain ⟨a, cap, rfl, hc, hm⟩ := hn.form
  have HN : Hid (IntsAt w (.slice a ns.length cap) ns) := hn
  obtain ⟨hp1, hp8, hpl, hpf⟩ := patOk_parts hok
  have HPF : Hid (∀ (k : Nat) (x : Int), ns[k]? = some x → 0 ≤ x ∧ x ≤ 9) := hpf
  have HPL : Hid (ns.length = s.size + 1) := hpl
  have hnl : ns.length ≤ 9 := by omega
  have HR : Hid (putP (s, ns) = putO s.data.toList ns ns.length) := rfl
  obtain ⟨W0, hW0⟩ : ∃ W0, w.alloc (.cells #[.string s, .slice a ns.length cap] 25) = W0 := ⟨_, rfl⟩
  have HB0 : Hid (Below w.heap.size w W0) := by show Below _ _ _; rw [← hW0]; exact (Below.refl _ _).alloc (Nat.le_refl _) _
  have C0 : Hid (W0.cell? ⟨w.heap.size, 0, none⟩ = some (.string s)) := by show _ = _; rw [← hW0]; simp [go_sem]
  have C1 : Hid (W0.cell? ⟨w.heap.size, 1, none⟩ = some (.slice a ns.length cap)) := by show _ = _; rw [← hW0]; simp [go_sem]
  have hz0 : w.heap.size < W0.heap.size := by rw [← hW0]; simp
  clear hn hpf hok hpl
  go_enter Try.func18, Try.ntmps18
  go_wp2
  clear hW0
  go_loopw [3, 4] (fun o i wr => ∃ (k : Nat), k ≤ ns.length ∧ i = .int .i64 k ∧ o = .string (putO s.data.toList ns k) ∧ Below W0.heap.size W0 wr) (fun _ i _ => ns.length - (intOf i).toNat)
  case atStart => exact ⟨0, Nat.zero_le _, rfl, by rw [putO_zero], Below.refl _ _⟩
  case round =>
    obtain ⟨k, hk, rfl, rfl, hb⟩ := hrel
    have HB : Hid (Below W0.heap.size W0 wr) := hb
    have HBw : Hid (Below w.heap.size w wr) := HB0.out.trans (hb.mono HB0.out.size)
    have d0 := (HB.out.cell (p := ⟨w.heap.size, 0, none⟩) hz0).trans C0.out
    have d1 := (HB.out.cell (p := ⟨w.heap.size, 1, none⟩) hz0).trans C1.out
    have hz2 : w.heap.size < wr.heap.size := Nat.lt_of_lt_of_le hz0 HB.out.size
    clear hb
    by_cases hlt : k < ns.length
    · obtain ⟨b, off, cap9, x, hv, hbl, hx, e0⟩ := (HN.out.below HBw.out).at hlt
      cases hv
      have hx9 := HPF.out k x hx
      have hos := putO_size s.data.toList ns k
      have HPC : Hid (pieceP s.data.toList ns k = (if x = 0 then [] else [UInt8.ofNat (48 + x.toNat)]) ++ (s.data.toList.drop k).take 1) := piece_at hx
      obtain ⟨X, hX⟩ : ∃ X, putO s.data.toList ns k = X := ⟨_, rfl⟩
      have HX : Hid (X = ⟨(putTo s.data.toList ns k).toArray⟩) := hX.symm
      rw [hX] at hos ⊢
      clear hx hX
      by_cases hx0 : 0 < x
      · obtain ⟨D, hD⟩ : ∃ D : ByteArray, (⟨#[UInt8.ofNat (48 + x.toNat)]⟩ : ByteArray) = D := ⟨_, rfl⟩
        have hDs : D.size = 1 := by rw [← hD]; rfl
        have HD : Hid (⟨#[UInt8.ofNat (48 + x.toNat)]⟩ = D) := hD
        obtain ⟨Y, hY⟩ : ∃ Y, X ++ D = Y := ⟨_, rfl⟩
        have hYs : Y.size ≤ 2 * k + 1 := by rw [← hY, ByteArray.size_append]; omega
        have HYL : Hid (Y = ⟨(putTo s.data.toList ns k ++ [UInt8.ofNat (48 + x.toNat)]).toArray⟩) := by
          show Y = _
          rw [← hY, HX.out, join_list, ← hD]
        have r1 : ∀ w : World, (Op.stringOp .add X D).run Try.prog w = .ok (.string Y) w := fun w => by rw [run_string_add_sum w _ _ (by omega), hY]
        clear hD hY
        by_cases hks : k < s.size
        · have HST : Hid (putO s.data.toList ns (k + 1) = Y ++ s.extract k (k + 1)) := by
            show putO _ _ (k + 1) = _
            rw [HYL.out, join_list]
            unfold putO
            rw [putTo, HPC.out, if_neg (by omega), drop_in s k hks, ext_one5 s k hks, List.append_assoc]
          have hks' : (k : Int) < (s.size : Int) := by omega
          have hE : (s.extract k (k + 1)).size = 1 := by simp; omega
          obtain ⟨Z, hZ⟩ : ∃ Z, Y ++ s.extract k (k + 1) = Z := ⟨_, rfl⟩
          have HZ : Hid (Y ++ s.extract k (k + 1) = Z) := hZ
          have r2 : ∀ w : World, (Op.stringOp .add Y (s.extract k (k + 1))).run Try.prog w = .ok (.string Z) w := fun w => by rw [run_string_add_sum w _ _ (by omega), hZ]
          clear hE hZ
          go_wp2_with fail
          refine (l1Dec_digit x _ (by omega) (by omega)).mono ?_
          rintro e w3 ⟨he, hb3⟩
          rw [HD.out] at he
          subst he
          have HB3 : Hid (Below W0.heap.size W0 w3) := HB.out.trans (hb3.mono HB.out.size)
          have f0 := (HB3.out.cell (p := ⟨w.heap.size, 0, none⟩) hz0).trans C0.out
          have hz3 : w.heap.size < w3.heap.size := Nat.lt_of_lt_of_le hz0 HB3.out.size
          clear hb3 d0 d1
          go_wp2_with fail
          go_roundw
          case rel => exact ⟨k + 1, by omega, by go_num, by rw [HST.out, HZ.out], HB3.out⟩
          case measure => simp [intOf]; omega
        · have HST : Hid (putO s.data.toList ns (k + 1) = Y) := by
            show putO _ _ (k + 1) = _
            rw [HYL.out]
            unfold putO
            rw [putTo, HPC.out, if_neg (by omega), drop_out s k hks, List.append_nil]
          have hks' : ¬ (k : Int) < (s.size : Int) := by omega
          go_wp2_with fail
          refine (l1Dec_digit x _ (by omega) (by omega)).mono ?_
          rintro e w3 ⟨he, hb3⟩
          rw [HD.out] at he
          subst he
          have HB3 : Hid (Below W0.heap.size W0 w3) := HB.out.trans (hb3.mono HB.out.size)
          have f0 := (HB3.out.cell (p := ⟨w.heap.size, 0, none⟩) hz0).trans C0.out
          have hz3 : w.heap.size < w3.heap.size := Nat.lt_of_lt_of_le hz0 HB3.out.size
          clear hb3 d0 d1
          go_wp2_with fail
          go_roundw
          case rel => exact ⟨k + 1, by omega, by go_num, by rw [HST.out], HB3.out⟩
          case measure => simp [intOf]; omega
      · by_cases hks : k < s.size
        · have HST : Hid (putO s.data.toList ns (k + 1) = X ++ s.extract k (k + 1)) := by
            show putO _ _ (k + 1) = _
            rw [HX.out, join_list]
            unfold putO
            rw [putTo, HPC.out, if_pos (by omega), drop_in s k hks, ext_one5 s k hks]; rfl
          have hks' : (k : Int) < (s.size : Int) := by omega
          have hE : (s.extract k (k + 1)).size = 1 := by simp; omega
          obtain ⟨Z, hZ⟩ : ∃ Z, X ++ s.extract k (k + 1) = Z := ⟨_, rfl⟩
          have HZ : Hid (X ++ s.extract k (k + 1) = Z) := hZ
          have r2 : ∀ w : World, (Op.stringOp .add X (s.extract k (k + 1))).run Try.prog w = .ok (.string Z) w := fun w => by rw [run_string_add_sum w _ _ (by omega), hZ]
          clear hE hZ
          go_wp2_with fail
          go_roundw
          case rel => exact ⟨k + 1, by omega, by go_num, by rw [HST.out, HZ.out], HB.out⟩
          case measure => simp [intOf]; omega
        · have HST : Hid (putO s.data.toList ns (k + 1) = X) := by
            show putO _ _ (k + 1) = _
            rw [HX.out]
            unfold putO
            rw [putTo, HPC.out, if_pos (by omega), drop_out s k hks]; simp
          have hks' : ¬ (k : Int) < (s.size : Int) := by omega
          go_wp2_with fail
          go_roundw
          case rel => exact ⟨k + 1, by omega, by go_num, by rw [HST.out], HB.out⟩
          case measure => simp [intOf]; omega
    · have hkl : k = ns.length := by omega
      have HE : Hid (putO s.data.toList ns k = putP (s, ns)) := by show _ = _; rw [HR.out, hkl]
      clear hkl
      go_wp2_with fail
      go_ret
      exact ⟨ret_str3 (by rw [← HE.out]), HBw.out⟩
set_option maxHeartbeats 1000000 in
theorem specPatternPut_any (w : World) (v : Value) (x : PatM) (h : PatAt w v x) :
    Calls Try.prog 7 #[v] w fun e w' => e = .returned (.string (ppT x)) ∧ Below w.heap.size w w' := by
  have h9 := h
  obtain ⟨vn, rfl, hs0, hn⟩ := h
  obtain ⟨s, ns⟩ := x
  simp only at hs0 hn
  obtain ⟨a, cap, rfl, hc, hm⟩ := hn.form
  have HPA : Hid (PatAt w (.agg #[.string s, .slice a ns.length cap]) (s, ns)) := h9
  have HBX : Hid (Below w.heap.size w (w.alloc (.cells #[.string s, .slice a ns.length cap] 25))) := (Below.refl _ _).alloc (Nat.le_refl _) _
  clear hn h9
  go_enter Try.func7, Try.ntmps7
  go_wp2_with fail
  refine (specPatternOk_any _ _ (s, ns) (HPA.out.below HBX.out)).mono ?_
  rintro e w1 ⟨rfl, hb1⟩
  have c0 : w1.cell? ⟨w.heap.size, 0, none⟩ = some (.string s) := (hb1.cell (p := ⟨w.heap.size, 0, none⟩) (by simp)).trans (by simp [go_sem])
  have c1 : w1.cell? ⟨w.heap.size, 1, none⟩ = some (.slice a ns.length cap) := (hb1.cell (p := ⟨w.heap.size, 1, none⟩) (by simp)).trans (by simp [go_sem])
  have hz1 : w.heap.size < w1.heap.size := by have := hb1.size; simp at this; omega
  have HB1 : Hid (Below w.heap.size w w1) := HBX.out.trans (hb1.mono HBX.out.size)
  clear hb1
  cases hok : patOk (s, ns) with
  | false =>
    have HC : Hid (ppT (s, ns) = ⟨#[]⟩) := by show _ = _; simp [ppT, hok]
    clear c0 c1
    go_wp2
    go_ret
    exact ⟨ret_str3 (by rw [HC.out]), HB1.out⟩
  | true =>
    have HC : Hid (ppT (s, ns) = putP (s, ns)) := by show _ = _; simp [ppT, hok]
    have HOK : Hid (patOk (s, ns) = true) := hok
    clear hok
    go_wp2_with fail
    refine (l9Put_any _ _ s ns (HPA.out.below HB1.out) HOK.out).mono ?_
    rintro e w2 ⟨rfl, hb2⟩
    have HB2 : Hid (Below w.heap.size w w2) := HB1.out.trans (hb2.mono HB1.out.size)
    clear hb2
    go_wp2_with fail
    go_ret
    exact ⟨ret_str3 (by rw [HC.out]), HB2.out⟩
end Go.Proofs.Ytehpdlokacdifaa
