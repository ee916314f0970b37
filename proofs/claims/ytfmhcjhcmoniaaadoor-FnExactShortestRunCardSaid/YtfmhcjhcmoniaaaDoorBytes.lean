/-
  Plain mathematics: texts by their bytes. Conditions: none.
-/
import Derived.Test.YtfmhcjhcmoniaaaDoorNamesM
namespace Go.Proofs.YtfmhcjhcmoniaaaDoor
open Go.RowKit Go.Maps

theorem bytes_ext2 {a b : ByteArray} (h : a.data.toList = b.data.toList) : a = b := ByteArray.ext (Array.toList_inj.1 h)
theorem cat_flat (l : List ByteArray) : (cat l).data.toList = (l.map (·.data.toList)).flatten := by
  have key : ∀ (l : List ByteArray) (a : ByteArray), (l.foldl (· ++ ·) a).data.toList = a.data.toList ++ (l.map (·.data.toList)).flatten := by
    intro l
    induction l with
    | nil => intro a; simp
    | cons x r ih =>
      intro a
      rw [List.foldl_cons, ih]
      simp [ByteArray.data_append]
  have := key l e0
  unfold cat
  rw [this]
  rfl
end Go.Proofs.YtfmhcjhcmoniaaaDoor
