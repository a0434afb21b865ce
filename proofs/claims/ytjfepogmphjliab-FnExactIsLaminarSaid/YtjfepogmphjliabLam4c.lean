/- Laminar groups of values: the model's side. -/
import Derived.Test.YtjfepogmphjliabLam4b
namespace Go.Proofs.Ytjfepogmphjliab
open Go.ChangeShapes Go.WideShapes Go.ChangeAt Go.RowKit
set_option linter.unusedVariables false
noncomputable def lamV (g : Int) (zs : List Int) (zss : List (List Int)) : Bool := okV g zs && lamB zs.length zss
theorem l04Laminar_any (B : Nat) (g : Int) (ad : Option Addr) (cap : Nat) (zs : List Int) (bd : Option Addr) (bcap : Nat) (zss : List (List Int)) (w : World) (hz : Ints w ad zs) (hg : Intss w bd zss)
    (c0 : w.cell? ⟨B, 0, none⟩ = some (.int .i64 g)) (c1 : w.cell? ⟨B, 1, none⟩ = some (.slice ad zs.length cap)) :
    Calls Try.prog 18 #[.pointer (some ⟨B, 0, none⟩), .slice bd zss.length bcap] w fun e w' => e = .returned (.bool (lamV g zs zss)) ∧ Keep w w' := by
  cases h1 : okV g zs
  · rw [show lamV g zs zss = false from by simp [lamV, h1]]
    go_enter Try.func18, Try.ntmps18
    go_wp2_with fail
    refine (l01Is_any B g ad cap zs _ hz c0 c1).mono ?_
    rw [h1]
    rintro e w' ⟨rfl, rfl⟩
    go_wp2
    go_ret
    exact ⟨rfl, Below.refl _ _⟩
  · rw [show lamV g zs zss = lamB zs.length zss from by simp [lamV, h1]]
    have hl := okV_len h1
    go_enter Try.func18, Try.ntmps18
    go_wp2_with fail
    refine (l01Is_any B g ad cap zs _ hz c0 c1).mono ?_
    rw [h1]
    rintro e w' ⟨rfl, rfl⟩
    go_wp2_with fail
    refine (l04Groups_any zs.length bd bcap zss _ hg (by omega)).mono ?_
    rintro e w1 ⟨rfl, k1⟩
    go_wp2
    go_ret
    exact ⟨rfl, k1⟩
theorem specIsLaminar_any (g : Int) (ad : Option Addr) (cap : Nat) (zs : List Int) (bd : Option Addr) (bcap : Nat) (zss : List (List Int)) (w : World) (hz : Ints w ad zs) (hg : Intss w bd zss) :
    Calls Try.prog 7 #[valV g ad zs.length cap, .slice bd zss.length bcap] w fun e w' => e = .returned (.bool (lamV g zs zss)) ∧ Keep w w' := by
  have hbl : Below w.heap.size w (w.alloc (.cells #[.int .i64 g, .slice ad zs.length cap] 29)) := by go_grown
  go_enter Try.func7, Try.ntmps7
  go_wp2_with fail
  refine (l04Laminar_any w.heap.size g ad cap zs bd bcap zss _ (hz.keep hbl (Nat.le_refl _)) (hg.keep hbl (Nat.le_refl _)) (by simp) (by simp)).mono ?_
  rintro e w1 ⟨rfl, k1⟩
  have HK := Lib.hid (Keep.next hbl k1)
  go_wp2
  go_ret
  exact ⟨rfl, HK.out⟩
end Go.Proofs.Ytjfepogmphjliab
