/-
  A machine as bytes: the mathematics; numbers in bytes.
-/
import Derived.Test.YtbkjbkdmanaohaaProg
import Derived.Test.YtbkjbkdmanaohaaGM47
import Derived.WalkKit
import Derived.WalkSpells
import Derived.WalkLawsBesides
import Derived.Laws.BytesArg
import Derived.Below
import Derived.Deep.WholeRow
namespace Go.Proofs.Ytbkjbkdmanaohaa
open Go.RowKit
set_option linter.unusedVariables false
/-- A number in bytes. -/
def nbL (n : Nat) : List UInt8 := if n < 128 then [UInt8.ofNat n] else [UInt8.ofNat (n % 128 + 128), UInt8.ofNat (n / 128)]
theorem nbL_len (n : Nat) : (nbL n).length ≤ 2 := by unfold nbL; split <;> simp
/-- Bytes as a text. -/
def bsT (l : List UInt8) : ByteArray := ⟨l.toArray⟩
theorem bsT_size (l : List UInt8) : (bsT l).size = l.length := by show (List.toArray l).size = _; simp
theorem bsT_app (a b : List UInt8) : bsT a ++ bsT b = bsT (a ++ b) := by
  apply ByteArray.ext
  rw [ByteArray.data_append]
  simp [bsT]
theorem letB_bs (c : Int) : letB c = bsT [UInt8.ofNat c.toNat] := rfl
def edL (p : Nat) (e : Int × Int) : List UInt8 := UInt8.ofNat e.1.toNat :: nbL (e.2.toNat - p)
def edsL (p : Nat) (es : List (Int × Int)) : List UInt8 := es.flatMap (edL p)
theorem edsL_take {p : Nat} {es : List (Int × Int)} {k : Nat} {e : Int × Int} (he : es[k]? = some e) : edsL p (es.take (k + 1)) = edsL p (es.take k) ++ edL p e := by
  unfold edsL
  rw [List.take_add_one, he, List.flatMap_append]
  simp
theorem edsL_len (p : Nat) : ∀ (es : List (Int × Int)), (edsL p es).length ≤ 3 * es.length
  | [] => by simp [edsL]
  | e :: es => by
    have h1 := edsL_len p es
    have h2 : (edL p e).length ≤ 3 := by unfold edL; rw [List.length_cons]; have := nbL_len (e.2.toNat - p); omega
    unfold edsL at *
    rw [List.flatMap_cons, List.length_append, List.length_cons]
    omega
def headN (st : Sta) : Nat := 2 * st.es.length + (if st.ends then 1 else 0)
def stL (p : Nat) (st : Sta) : List UInt8 := nbL (headN st) ++ edsL p st.es
theorem stL_len (p : Nat) (st : Sta) (h : st.es.length ≤ 26) : (stL p st).length ≤ 80 := by
  have h1 := nbL_len (headN st)
  have h2 := edsL_len p st.es
  unfold stL
  rw [List.length_append]
  omega
/-- The first states. -/
def stsL (ss : List Sta) : Nat → List UInt8
  | 0 => []
  | k + 1 => stsL ss k ++ (match ss[k]? with | some st => stL k st | none => [])
theorem stsL_succ {ss : List Sta} {k : Nat} {st : Sta} (h : ss[k]? = some st) : stsL ss (k + 1) = stsL ss k ++ stL k st := by rw [stsL, h]
theorem stsL_len {ss : List Sta} (h : ∀ (i : Nat) (st : Sta), ss[i]? = some st → st.es.length ≤ 26) : ∀ k, (stsL ss k).length ≤ 80 * k
  | 0 => by simp [stsL]
  | k + 1 => by
    have h1 := stsL_len h k
    rw [stsL, List.length_append]
    cases hk : ss[k]? with
    | none => simp; omega
    | some st =>
      have h2 := stL_len k st (h k st hk)
      simp only
      omega
def machL (ss : List Sta) : List UInt8 := nbL ss.length ++ stsL ss ss.length
/-- The bytes of a machine, if they are not too many. -/
def mputT (ss : List Sta) : ByteArray := if machT ss then (if (machL ss).length ≤ 4000 then bsT (machL ss) else ⟨#[]⟩) else ⟨#[]⟩
theorem byte_of_cell {P : Program} {W : World} {b : Nat} {c : Int} {ts tb tx : TypeId} (h1 : P.underlying ts = some (.slice tb)) (h2 : P.underlying tb = some (.int .u8)) (h3 : P.underlying tx = some .string) (hc : W.cell? ⟨b, 0, none⟩ = some (.int .u8 c)) :
    (convert ts tx (.slice (some ⟨b, 0, none⟩) 1 1)).run P W = .ok (.string (bsT [UInt8.ofNat c.toNat])) W := by
  have h := run_convert_bytes_arg (P := P) W ts tb h1 h2 b 0 1 1 [c] rfl (fun i hi => by
    have : i = 0 := by omega
    subst this
    simpa using hc) tx h3
  exact h
theorem byte_of_cells {P : Program} {W : World} {b : Nat} {c d : Int} {ts tb tx : TypeId} (h1 : P.underlying ts = some (.slice tb)) (h2 : P.underlying tb = some (.int .u8)) (h3 : P.underlying tx = some .string) (hc : W.cell? ⟨b, 0, none⟩ = some (.int .u8 c)) (hd : W.cell? ⟨b, 1, none⟩ = some (.int .u8 d)) :
    (convert ts tx (.slice (some ⟨b, 0, none⟩) 2 2)).run P W = .ok (.string (bsT [UInt8.ofNat c.toNat, UInt8.ofNat d.toNat])) W := by
  have h := run_convert_bytes_arg (P := P) W ts tb h1 h2 b 0 2 2 [c, d] rfl (fun i hi => by
    have : i = 0 ∨ i = 1 := by omega
    rcases this with rfl | rfl
    · simpa using hc
    · simpa using hd) tx h3
  exact h
set_option maxHeartbeats 1000000 in
theorem numberBytes_any (n : Nat) (hn : n ≤ 30000) (w : World) : Calls Try.prog 44 #[.int .i64 n] w fun e w' => e = .returned (.string (bsT (nbL n))) ∧ Below w.heap.size w w' := by
  by_cases h : n < 128
  · have HN : Hid (nbL n = [UInt8.ofNat (n : Int).toNat]) := by show _ = _; unfold nbL; rw [if_pos h]; rfl
    have h' : (n : Int) < 128 := by omega
    have h8 : IntKind.u8.wrap (n : Int) = (n : Int) := by simp only [IntKind.wrap, IntKind.signed, IntKind.bits]; simp; omega
    have hc := byte_of_cell (P := Try.prog) (W := w.alloc (.cells #[.int .u8 (n : Int)] 5)) (b := w.heap.size) (c := (n : Int)) Try.underlying61 Try.underlying5 Try.underlying9 (by rw [cell_of_row _ _ 0 _ _ _ (heap_alloc_last w _)]; rfl)
    rw [← HN.out] at hc
    go_enter Try.func44, Try.ntmps44
    go_wp2
    go_ret
    exact ⟨rfl, (Below.refl _ _).alloc (Nat.le_refl _) _⟩
  · obtain ⟨r, hr⟩ : ∃ r, n % 128 = r := ⟨_, rfl⟩
    obtain ⟨q, hq⟩ : ∃ q, n / 128 = q := ⟨_, rfl⟩
    have hr2 : r < 128 := by omega
    have hq2 : q ≤ 234 := by omega
    have HN : Hid (nbL n = [UInt8.ofNat ((r : Int) + 128).toNat, UInt8.ofNat (q : Int).toNat]) := by show _ = _; unfold nbL; rw [if_neg h, hr, hq]; rfl
    have t1 : (n : Int).tmod 128 = (r : Int) := by rw [← hr]; rfl
    have t2 : (n : Int) % 128 = (r : Int) := by omega
    have t3 : (n : Int).tdiv 128 = (q : Int) := by rw [← hq]; rfl
    have t4 : (n : Int) / 128 = (q : Int) := by omega
    have h8 : IntKind.u8.wrap ((r : Int) + 128) = (r : Int) + 128 := by simp only [IntKind.wrap, IntKind.signed, IntKind.bits]; simp; omega
    have h9 : IntKind.u8.wrap (q : Int) = (q : Int) := by simp only [IntKind.wrap, IntKind.signed, IntKind.bits]; simp; omega
    have h' : ¬ (n : Int) < 128 := by omega
    have hc := byte_of_cells (P := Try.prog) (W := w.alloc (.cells #[.int .u8 ((r : Int) + 128), .int .u8 (q : Int)] 5)) (b := w.heap.size) (c := (r : Int) + 128) (d := (q : Int)) Try.underlying61 Try.underlying5 Try.underlying9 (by rw [cell_of_row _ _ 0 _ _ _ (heap_alloc_last w _)]; rfl) (by rw [cell_of_row _ _ 1 _ _ _ (heap_alloc_last w _)]; rfl)
    rw [← HN.out] at hc
    clear hr hq
    go_enter Try.func44, Try.ntmps44
    go_wp2
    go_ret
    exact ⟨rfl, (Below.refl _ _).alloc (Nat.le_refl _) _⟩
set_option maxHeartbeats 1000000 in
theorem l12Bytes_any (n : Nat) (hn : n ≤ 30000) (w : World) : Calls Try.prog 60 #[.int .i64 n] w fun e w' => e = .returned (.string (bsT (nbL n))) ∧ Below w.heap.size w w' := by
  by_cases h : n < 128
  · have HN : Hid (nbL n = [UInt8.ofNat (n : Int).toNat]) := by show _ = _; unfold nbL; rw [if_pos h]; rfl
    have h' : (n : Int) < 128 := by omega
    have h8 : IntKind.u8.wrap (n : Int) = (n : Int) := by simp only [IntKind.wrap, IntKind.signed, IntKind.bits]; simp; omega
    have hc := byte_of_cell (P := Try.prog) (W := w.alloc (.cells #[.int .u8 (n : Int)] 5)) (b := w.heap.size) (c := (n : Int)) Try.underlying61 Try.underlying5 Try.underlying9 (by rw [cell_of_row _ _ 0 _ _ _ (heap_alloc_last w _)]; rfl)
    rw [← HN.out] at hc
    go_enter Try.func60, Try.ntmps60
    go_wp2
    go_ret
    exact ⟨rfl, (Below.refl _ _).alloc (Nat.le_refl _) _⟩
  · obtain ⟨r, hr⟩ : ∃ r, n % 128 = r := ⟨_, rfl⟩
    obtain ⟨q, hq⟩ : ∃ q, n / 128 = q := ⟨_, rfl⟩
    have hr2 : r < 128 := by omega
    have hq2 : q ≤ 234 := by omega
    have HN : Hid (nbL n = [UInt8.ofNat ((r : Int) + 128).toNat, UInt8.ofNat (q : Int).toNat]) := by show _ = _; unfold nbL; rw [if_neg h, hr, hq]; rfl
    have t1 : (n : Int).tmod 128 = (r : Int) := by rw [← hr]; rfl
    have t2 : (n : Int) % 128 = (r : Int) := by omega
    have t3 : (n : Int).tdiv 128 = (q : Int) := by rw [← hq]; rfl
    have t4 : (n : Int) / 128 = (q : Int) := by omega
    have h8 : IntKind.u8.wrap ((r : Int) + 128) = (r : Int) + 128 := by simp only [IntKind.wrap, IntKind.signed, IntKind.bits]; simp; omega
    have h9 : IntKind.u8.wrap (q : Int) = (q : Int) := by simp only [IntKind.wrap, IntKind.signed, IntKind.bits]; simp; omega
    have h' : ¬ (n : Int) < 128 := by omega
    have hc := byte_of_cells (P := Try.prog) (W := w.alloc (.cells #[.int .u8 ((r : Int) + 128), .int .u8 (q : Int)] 5)) (b := w.heap.size) (c := (r : Int) + 128) (d := (q : Int)) Try.underlying61 Try.underlying5 Try.underlying9 (by rw [cell_of_row _ _ 0 _ _ _ (heap_alloc_last w _)]; rfl) (by rw [cell_of_row _ _ 1 _ _ _ (heap_alloc_last w _)]; rfl)
    rw [← HN.out] at hc
    clear hr hq
    go_enter Try.func60, Try.ntmps60
    go_wp2
    go_ret
    exact ⟨rfl, (Below.refl _ _).alloc (Nat.le_refl _) _⟩
end Go.Proofs.Ytbkjbkdmanaohaa
