/- Pictures: the program's look at one. -/
import Derived.Test.YtjoanfgchapbaaaGrd9
import Derived.Test.YtjoanfgchapbaaaTabI
namespace Go.Proofs.Ytjoanfgchapbaaa
open Go.ChangeShapes Go.WideShapes Go.ChangeAt Go.RowKit Go.Deep
set_option linter.unusedVariables false
theorem ValidPicture_any (ad : Option Addr) (cap : Nat) (zss : List (List Int)) (w : World) (hz : Intss w ad zss) :
    Calls Try.prog 18 #[.agg #[.slice ad zss.length cap]] w fun e w' => e = .returned (.bool (picB zss)) ∧ Keep w w' := by
  have HR := Lib.hid (fun W (k : Keep w W) => areRows_any 12 255 ad cap zss W (hz.keep k (Nat.le_refl _)))
  rw [show gridB 12 255 zss = picB zss from rfl] at HR
  generalize picB zss = V at *
  clear hz
  go_enter Try.func18, Try.ntmps18
  go_wp2_with fail
  refine (HR.out _ (by go_grown)).mono ?_
  rintro e w' ⟨rfl, k1⟩
  have g1 : Keep w w' := Keep.next (by go_grown) k1
  go_wp2
  go_ret
  exact ⟨rfl, g1⟩
theorem areDots_any (ad : Option Addr) (cap : Nat) (zss : List (List Int)) (w : World) (hz : Intss w ad zss) :
    Calls Try.prog 117 #[.slice ad zss.length cap] w fun e w' => e = .returned (.bool (gridB 12 1 zss)) ∧ Keep w w' := by
  have HR := Lib.hid (fun W (k : Keep w W) => areRows_any 12 1 ad cap zss W (hz.keep k (Nat.le_refl _)))
  generalize gridB 12 1 zss = V at *
  clear hz
  go_enter Try.func117, Try.ntmps117
  go_wp2_with fail
  refine (HR.out _ (by go_grown)).mono ?_
  rintro e w' ⟨rfl, k1⟩
  have g1 : Keep w w' := Keep.next (by go_grown) k1
  go_wp2
  go_ret
  exact ⟨rfl, g1⟩
end Go.Proofs.Ytjoanfgchapbaaa
