/-
  A change beside a variable of a change that is written.
-/
import Derived.Test.YtbbepdmogkadeaaW146
namespace Go.Proofs.Ytbbepdmogkadeaa
open Go.RowKit
set_option linter.unusedVariables false
theorem below_via {c W w' : World} (hb : Below W.heap.size W w') (h : Below c.heap.size c W) : Below c.heap.size c w' := h.trans (hb.mono h.size)
theorem DRow.drew {w : World} {b : Nat} {v0 v1 v3 : Value} {af : Bool} (h : DRow w b v0 v1 af v3) : DRow (World.drew w) b v0 v1 af v3 := World.rowIs.of_block h rfl
def NoStr (w : World) (B : Nat) : Prop := ∀ o s, w.cell? ⟨B, o, none⟩ ≠ some (.string s)
theorem drow_nostr {w : World} {B : Nat} {af : Bool} (h : DRow w B (.slice none 0 0) (.slice none 0 0) af (.slice none 0 0)) : NoStr w B := by
  have c0 := h.c0
  have c1 := h.c1
  have c2 := h.c2
  have c3 := h.c3
  obtain ⟨cur, hb, hsz, _⟩ := h
  intro o s e
  match o with
  | 0 => rw [c0] at e; cases e
  | 1 => rw [c1] at e; cases e
  | 2 => rw [c2] at e; cases e
  | 3 => rw [c3] at e; cases e
  | o + 4 =>
    rw [cell_of_row _ _ (o + 4) _ _ _ hb, Array.getElem?_eq_none (by omega)] at e
    cases e
theorem TextsAt.away {w w' : World} {B : Nat} {v : Value} {xs : List ByteArray} (h : TextsAt w v xs) (hg : w.grownBy w' (some B)) (hn : NoStr w B) : TextsAt w' v xs := by
  obtain ⟨a, cap, hv, hc, hm, hf, hh⟩ := h
  refine ⟨a, cap, hv, hc, hm, hf, fun hne => ?_⟩
  obtain ⟨b, off, ha, h2, h3⟩ := hh hne
  have hb : b ≠ B := by
    rintro rfl
    obtain ⟨x, l, rfl⟩ := List.exists_cons_of_ne_nil hne
    exact hn _ _ (h3 0 x rfl)
  exact ⟨b, off, ha, Nat.lt_of_lt_of_le h2 hg.size, fun i x hx => (World.cell?_of_block (a := ⟨b, off + i, none⟩) (hg.block b h2 (by simpa using hb))).trans (h3 i x hx)⟩
theorem EntsAt.away {w w' : World} {B : Nat} {v : Value} {xs : List (ByteArray × ByteArray)} (h : EntsAt w v xs) (hg : w.grownBy w' (some B)) (hn : NoStr w B) : EntsAt w' v xs := by
  obtain ⟨a, cap, hv, hc, hm, hf, hh⟩ := h
  refine ⟨a, cap, hv, hc, hm, hf, fun hne => ?_⟩
  obtain ⟨b, off, ha, h2, h3⟩ := hh hne
  have hb : b ≠ B := by
    rintro rfl
    obtain ⟨x, l, rfl⟩ := List.exists_cons_of_ne_nil hne
    exact hn _ _ (h3 0 x rfl).1
  have k := fun o => World.cell?_of_block (a := ⟨b, o, none⟩) (hg.block b h2 (by simpa using hb))
  exact ⟨b, off, ha, Nat.lt_of_lt_of_le h2 hg.size, fun i x hx => ⟨(k _).trans (h3 i x hx).1, (k _).trans (h3 i x hx).2⟩⟩
theorem AffsAt.away {w w' : World} {B : Nat} {v : Value} {xs : List Aff} (h : AffsAt w v xs) (hg : w.grownBy w' (some B)) (hn : NoStr w B) : AffsAt w' v xs := by
  obtain ⟨a, cap, hv, hc, hm, hf, hh⟩ := h
  refine ⟨a, cap, hv, hc, hm, hf, fun hne => ?_⟩
  obtain ⟨b, off, ha, h2, h3⟩ := hh hne
  have hb : b ≠ B := by
    rintro rfl
    obtain ⟨x, l, rfl⟩ := List.exists_cons_of_ne_nil hne
    exact hn _ _ (h3 0 x rfl).1
  have k := fun o => World.cell?_of_block (a := ⟨b, o, none⟩) (hg.block b h2 (by simpa using hb))
  exact ⟨b, off, ha, Nat.lt_of_lt_of_le h2 hg.size, fun i x hx => by
    obtain ⟨e0, e1, e2, e3, e4⟩ := h3 i x hx
    exact ⟨(k _).trans e0, (k _).trans e1, (k _).trans e2, (k _).trans e3, (k _).trans e4⟩⟩
theorem drow_at {w : World} {B : Nat} {u : Value} {x : DeltaM} {af : Bool} (ha : DeltaAt w u x) (h : DRow w B (.slice none 0 0) (.slice none 0 0) af (.slice none 0 0)) (p0 p1 p2 p3 : Value) :
    DeltaAt ((((w.setCell ⟨B, 0, none⟩ p0).setCell ⟨B, 1, none⟩ p1).setCell ⟨B, 2, none⟩ p2).setCell ⟨B, 3, none⟩ p3) u x := by
  have hg := grown_trans (grown_trans (grown_trans (grown_set w B 0 p0) (grown_set _ B 1 p1)) (grown_set _ B 2 p2)) (grown_set _ B 3 p3)
  have hn := drow_nostr h
  obtain ⟨vg, vc, vl, hv, h1, h2, h3⟩ := ha
  exact ⟨vg, vc, vl, hv, h1.away hg hn, h2.away hg hn, h3.away hg hn⟩
theorem cell_set4 {w : World} {B b i : Nat} {u p0 p1 p2 p3 : Value} (h : w.cell? ⟨b, i, none⟩ = some u) (hne : b ≠ B) :
    ((((w.setCell ⟨B, 0, none⟩ p0).setCell ⟨B, 1, none⟩ p1).setCell ⟨B, 2, none⟩ p2).setCell ⟨B, 3, none⟩ p3).cell? ⟨b, i, none⟩ = some u := by
  have hg := grown_trans (grown_trans (grown_trans (grown_set w B 0 p0) (grown_set _ B 1 p1)) (grown_set _ B 2 p2)) (grown_set _ B 3 p3)
  have hl : b < w.heap.size := by
    rcases Nat.lt_or_ge b w.heap.size with hlt | hge
    · exact hlt
    · simp [World.cell?, Array.getElem?_eq_none hge] at h
  exact (World.cell?_of_block (a := ⟨b, i, none⟩) (hg.block b hl (by simpa using hne))).trans h
end Go.Proofs.Ytbbepdmogkadeaa
