/-
  The document's own Frame and Take, as they run.
-/
import Derived.Test.YtlalfehnkhenjabDoorC2
namespace Go.Proofs.YtlalfehnkhenjabDoor
open Go.RowKit

theorem size_list (s : ByteArray) : s.data.toList.length = s.size := by simp
theorem mk_list (s : ByteArray) : (⟨s.data.toList.toArray⟩ : ByteArray) = s := by obtain ⟨d⟩ := s; rfl
theorem mk_append (a b : List UInt8) : (⟨a.toArray⟩ : ByteArray) ++ ⟨b.toArray⟩ = ⟨(a ++ b).toArray⟩ := by
  apply ByteArray.ext
  simp [ByteArray.data_append]
theorem list_append (a b : ByteArray) : (a ++ b).data.toList = a.data.toList ++ b.data.toList := by simp [ByteArray.data_append]
theorem mk_size (a : List UInt8) : (⟨a.toArray⟩ : ByteArray).size = a.length := by show a.toArray.size = _; simp
theorem mk_data (a : List UInt8) : (⟨a.toArray⟩ : ByteArray).data.toList = a := by simp
theorem ext_data (s : ByteArray) (i j : Nat) : (s.extract i j).data.toList = (s.data.toList.drop i).take (j - i) := by
  rw [Lib.extract_data]


theorem frame_mk (body : ByteArray) : (⟨(lenB body.data.toList).toArray⟩ : ByteArray) ++ ⟨(sumB body.data.toList).toArray⟩ ++ body = ⟨(frameB body.data.toList).toArray⟩ := by
  conv => lhs; rw [← mk_list body]
  rw [mk_append, mk_append, List.append_assoc]
  rfl


end Go.Proofs.YtlalfehnkhenjabDoor
