/- Values rounded: floors, ceilings, nearest. -/
import Derived.Test.YtpdcmhnaedhkdaaVals
import Derived.Deep.RegionHeld3
namespace Go.Proofs.Ytpdcmhnaedhkdaa
open Go.ChangeShapes Go.WideShapes Go.ChangeAt Go.RowKit
set_option linter.unusedVariables false
def imgs (ok : Bool) (φ : Int → Int) (zs : List Int) : List Int := if ok then zs.map φ else []
def roundsV (φ : Int → Int → Int) (g : Int) (zs : List Int) : List Int := imgs (okV g zs) (fun z => φ z g) zs
theorem imgs_no (φ : Int → Int) (zs : List Int) : imgs false φ zs = [] := rfl
theorem imgs_yes (φ : Int → Int) (zs : List Int) : imgs true φ zs = zs.map φ := rfl
theorem fill_set_map (φ : Int → Int) (zs : List Int) (k : Nat) (h : k < zs.length) (z : Value) : (vals ((zs.take k).map φ) ++ List.replicate (zs.length - k) z).set k (.int .i64 (φ (zs.getD k 0))) = vals ((zs.take (k + 1)).map φ) ++ List.replicate (zs.length - (k + 1)) z := by
  have h1 := fill_set (zs.map φ) k (by simpa using h) z
  have e : (zs.map φ).getD k 0 = φ (zs.getD k 0) := by simp [List.getD_eq_getElem?_getD, h]
  rw [e, List.length_map, ← List.map_take, ← List.map_take] at h1
  exact h1
theorem fill_get_map (φ : Int → Int) (zs : List Int) (k : Nat) (h : k < zs.length) (z : Value) : (vals ((zs.take k).map φ) ++ List.replicate (zs.length - k) z)[k]? = some z := by
  have h1 := fill_get (zs.map φ) k (by simpa using h) z
  rw [List.length_map, ← List.map_take] at h1
  exact h1

end Go.Proofs.Ytpdcmhnaedhkdaa
