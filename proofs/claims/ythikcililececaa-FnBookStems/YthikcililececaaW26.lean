/-
  AffixDo and AffixBack, of the model.
-/
import Derived.Test.YthikcililececaaW25
import Derived.Test.YthikcililececaaW23
namespace Go.Proofs.Ythikcililececaa
open Go.RowKit
set_option linter.unusedVariables false
theorem doT_no {a : Aff} {s : ByteArray} (h : (affOk a && (wok s && (hasT a.front s a.wh && wok (swT a.front s a.strip a.add)))) = false) : doT a s = (ByteArray.empty, false) := by
  unfold doT; rw [h]; rfl
theorem doT_yes {a : Aff} {s : ByteArray} (h : (affOk a && (wok s && (hasT a.front s a.wh && wok (swT a.front s a.strip a.add)))) = true) : doT a s = (swT a.front s a.strip a.add, true) := by
  unfold doT; rw [h]; rfl
theorem backT_no {a : Aff} {s : ByteArray} (h : (affOk a && (wok s && (hasT a.front s a.add && (wok (swT a.front s a.add a.strip) && hasT a.front (swT a.front s a.add a.strip) a.wh)))) = false) : backT a s = (ByteArray.empty, false) := by
  unfold backT; rw [h]; rfl
theorem backT_yes {a : Aff} {s : ByteArray} (h : (affOk a && (wok s && (hasT a.front s a.add && (wok (swT a.front s a.add a.strip) && hasT a.front (swT a.front s a.add a.strip) a.wh)))) = true) : backT a s = (swT a.front s a.add a.strip, true) := by
  unfold backT; rw [h]; rfl
end Go.Proofs.Ythikcililececaa
