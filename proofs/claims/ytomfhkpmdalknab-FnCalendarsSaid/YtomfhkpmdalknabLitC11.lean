/- A calendar without leap years that is made in two blocks. -/
import Derived.Test.YtomfhkpmdalknabGrc11
namespace Go.Proofs.Ytomfhkpmdalknab
open Go.ChangeShapes Go.WideShapes Go.ChangeAt Go.RowKit Go.Deep
set_option linter.unusedVariables false
/-- A calendar without leap years that is made in two blocks. -/
theorem growC_lit (wa : World) (b : Nat) (g gh : Int) (hb : wa.heap.size = b) : GrwC wa ((wa.alloc (.cells #[] 2)).alloc (.cells #[.int .i64 g, .int .i64 gh, .slice (some ⟨b, 0, none⟩) 0 0] 27)) (b + 1) g gh (some ⟨b, 0, none⟩) 0 [] := by
  subst hb
  have o := World.ownsRow_lit (base := wa.heap.size) (e := 2) (size := 1) wa #[] 0 (Nat.le_refl _) (by simp) rfl
  have o2 : Own (wa.alloc (.cells #[] 2)) wa.heap.size (some ⟨wa.heap.size, 0, none⟩) 0 [] := ⟨by simpa using o, by simp, by simp⟩
  exact ⟨by simp [go_sem], by simp [go_sem], by simp [go_sem], by simp [go_sem], by simp, by omega, o2.keep (by go_grown), fun a h => by simp at h; subst h; simp, by go_grown⟩
end Go.Proofs.Ytomfhkpmdalknab
