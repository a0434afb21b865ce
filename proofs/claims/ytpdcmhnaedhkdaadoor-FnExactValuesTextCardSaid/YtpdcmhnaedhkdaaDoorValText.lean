/- Values as texts. -/
import Derived.Test.YtpdcmhnaedhkdaaDoorJoinSpec
import Derived.Deep.RegionHeld3
namespace Go.Proofs.YtpdcmhnaedhkdaaDoor
open Go.ChangeShapes Go.WideShapes Go.ChangeAt Go.RowKit
set_option linter.unusedVariables false
/-- The text of values. -/
def vtxt (g : Int) (zs : List Int) : List UInt8 := Lib.itoa g ++ (58 :: txt zs)
theorem bstr_colon (a b : List UInt8) : bstr a ++ (⟨#[58]⟩ : ByteArray) ++ bstr b = bstr (a ++ (58 :: b)) := by
  show bstr a ++ bstr [58] ++ bstr b = _
  rw [bstr_cat, bstr_cat]; simp
theorem txt_bound (zs : List Int) (h : ∀ z ∈ zs, In64 z) (hl : zs.length ≤ 40) : (txt zs).length ≤ 840 := by
  unfold txt
  split
  · simp
  · have := txt_len zs h
    omega
set_option maxHeartbeats 1600000 in
theorem ValuesText_any (g : Int) (ad : Option Addr) (cap : Nat) (zs : List Int) (w : World) (hz : Ints w ad zs) (hp : Pows w) :
    Calls Tryd.prog 15 #[valV g ad zs.length cap] w fun e w' => e = .returned (.tuple #[.string (if okV g zs then bstr (vtxt g zs) else ⟨#[]⟩), .bool (okV g zs)]) ∧ Keep w w' := by
  cases hok : okV g zs
  · go_enter Tryd.func15, Tryd.ntmps15
    go_wp2_with fail
    refine (ValidValues_any g ad cap zs _ (hz.keep (B := _) (by go_grown) (Nat.le_refl _))).mono ?_
    rw [hok]
    rintro e w1 ⟨rfl, k1⟩
    have g1 : Keep w w1 := Keep.next (by go_grown) k1
    go_wp2
    go_ret2
    exact ⟨rfl, g1⟩
  · have hl := okV_len hok
    have hd := okV_den hok
    have HG := Lib.hid (show In64 g from ⟨by omega, by omega⟩)
    have B0 : Box (w.alloc (.cells #[.int .i64 g, .slice ad zs.length cap] 40)) w.heap.size g ad zs.length cap := ⟨by simp, by simp, by simp⟩
    have hi := itoa_len g HG.out
    have ht := txt_bound zs hz.wf hl
    have HP := Lib.hid hp; clear hp
    have HZ := Lib.hid hz; clear hz
    go_enter Tryd.func15, Tryd.ntmps15
    go_wp2_with fail
    refine (ValidValues_any g ad cap zs _ (HZ.out.keep (B := _) (by go_grown) (Nat.le_refl _))).mono ?_
    rw [hok]
    rintro e w1 ⟨rfl, k1⟩
    have g1 : Keep w w1 := Keep.next (by go_grown) k1
    obtain ⟨c0, c1, cl⟩ := B0.keep k1
    have G1 := Lib.hid g1
    clear k1 g1
    have hs1 : ((bstr (txt zs)).size : Int) ≤ 840 := by rw [bstr_size]; omega
    have hs2 : ((bstr (Lib.itoa g)).size : Int) ≤ 20 := by rw [bstr_size]; omega
    have HV := Lib.hid (show bstr (vtxt g zs) = bstr (Lib.itoa g) ++ (⟨#[58]⟩ : ByteArray) ++ bstr (txt zs) from by rw [bstr_colon]; rfl)
    have HDC := Lib.hid (fun W (k : Keep w1 W) => Decimal_tab g W HG.out (HP.out.keep (G1.out.next k)))
    rw [show (⟨(Lib.itoa g).toArray⟩ : ByteArray) = bstr (Lib.itoa g) from rfl] at HDC
    have HJC := Lib.hid (fun W (k : Keep w1 W) => joined_any ad cap zs W (HZ.out.keep (G1.out.next k) (Nat.le_refl _)) hl (HP.out.keep (G1.out.next k)))
    have HS := Lib.hid (fun w' (k : Keep w1 w') => show (w'.cell? ⟨w.heap.size, 0, none⟩ = some (.int .i64 g) ∧ w'.cell? ⟨w.heap.size, 1, none⟩ = some (.slice ad zs.length cap)) ∧ Keep w1 w' from ⟨⟨((Box.mk c0 c1 cl).keep k).c0, ((Box.mk c0 c1 cl).keep k).c1⟩, k⟩)
    generalize bstr (txt zs) = t1 at hs1 HV HJC
    generalize bstr (Lib.itoa g) = t2 at hs2 HV HDC
    have hn1 : ¬ 9223372036854775807 < t2.size + 1 := by omega
    have hn2 : ¬ 9223372036854775807 < t2.size + 1 + t1.size := by omega
    clear hs1 hs2 hi ht
    go_wp2_with fail
    go_region_held3 (fun w' => (w'.cell? ⟨w.heap.size, 0, none⟩ = some (.int .i64 g) ∧ w'.cell? ⟨w.heap.size, 1, none⟩ = some (.slice ad zs.length cap)) ∧ Keep w1 w')
      (first | exact HS.out _ (Keep.next (Keep.next (by go_grown) k2) k3) | exact HS.out _ (Keep.next (by go_grown) k2) | exact HS.out _ (by go_grown))
      (first | (go_at_call 38; refine (HDC.out _ (by go_grown)).mono ?_; rintro e w2 ⟨rfl, k2⟩) | (go_at_call 39; refine (HJC.out _ (Keep.next (Keep.next (by go_grown) k2) (by go_grown))).mono ?_; rintro e w3 ⟨rfl, k3⟩))
    all_goals go_wp2
    all_goals go_ret2
    all_goals exact ⟨by rw [HV.out]; rfl, G1.out.next (Keep.next (Keep.next (by go_grown) k2) k3)⟩
set_option maxHeartbeats 1600000 in
theorem l01VText_any (B : Nat) (g : Int) (ad : Option Addr) (cap : Nat) (zs : List Int) (w : World) (hz : Ints w ad zs) (hg : In64 g) (hl : zs.length ≤ 40) (hb : Box w B g ad zs.length cap) :
    Calls Tryd.prog 35 #[.pointer (some ⟨B, 0, none⟩)] w fun e w' => e = .returned (.string (bstr (vtxt g zs))) ∧ Keep w w' := by
  obtain ⟨c0, c1, cl⟩ := hb
  have HG := Lib.hid hg; clear hg
  have hi := itoa_len g HG.out
  have ht := txt_bound zs hz.wf hl
  have HZ := Lib.hid hz; clear hz
  have hs1 : ((bstr (txt zs)).size : Int) ≤ 840 := by rw [bstr_size]; omega
  have hs2 : ((bstr (Lib.itoa g)).size : Int) ≤ 20 := by rw [bstr_size]; omega
  have HV := Lib.hid (show bstr (vtxt g zs) = bstr (Lib.itoa g) ++ (⟨#[58]⟩ : ByteArray) ++ bstr (txt zs) from by rw [bstr_colon]; rfl)
  have HDC := Lib.hid (fun W => l01Dec_any g W HG.out)
  rw [show (⟨(Lib.itoa g).toArray⟩ : ByteArray) = bstr (Lib.itoa g) from rfl] at HDC
  have HJC := Lib.hid (fun W (k : Keep w W) => l01Text_any ad cap zs W (HZ.out.keep k (Nat.le_refl _)) hl)
  have HS := Lib.hid (fun w' (k : Keep w w') => show (w'.cell? ⟨B, 0, none⟩ = some (.int .i64 g) ∧ w'.cell? ⟨B, 1, none⟩ = some (.slice ad zs.length cap)) ∧ Keep w w' from ⟨⟨((Box.mk c0 c1 cl).keep k).c0, ((Box.mk c0 c1 cl).keep k).c1⟩, k⟩)
  generalize bstr (txt zs) = t1 at hs1 HV HJC
  generalize bstr (Lib.itoa g) = t2 at hs2 HV HDC
  have hn1 : ¬ 9223372036854775807 < t2.size + 1 := by omega
  have hn2 : ¬ 9223372036854775807 < t2.size + 1 + t1.size := by omega
  clear hs1 hs2 hi ht
  go_enter Tryd.func35, Tryd.ntmps35
  go_wp2_with fail
  go_region_held3 (fun w' => (w'.cell? ⟨B, 0, none⟩ = some (.int .i64 g) ∧ w'.cell? ⟨B, 1, none⟩ = some (.slice ad zs.length cap)) ∧ Keep w w')
    (first | exact HS.out _ (Keep.next (Keep.next (by go_grown) k2) k3) | exact HS.out _ (Keep.next (by go_grown) k2) | exact HS.out _ (by go_grown))
    (first | (go_at_call 54; refine (HDC.out _).mono ?_; rintro e w2 ⟨rfl, k2⟩) | (go_at_call 63; refine (HJC.out _ (Keep.next (Keep.next (by go_grown) k2) (by go_grown))).mono ?_; rintro e w3 ⟨rfl, k3⟩))
  all_goals go_wp2
  all_goals go_ret
  all_goals exact ⟨by rw [HV.out]; rfl, Keep.next (Keep.next (by go_grown) k2) k3⟩
set_option maxHeartbeats 1600000 in
theorem specValuesText_any (g : Int) (ad : Option Addr) (cap : Nat) (zs : List Int) (w : World) (hz : Ints w ad zs) :
    Calls Tryd.prog 13 #[valV g ad zs.length cap] w fun e w' => e = .returned (.tuple #[.string (if okV g zs then bstr (vtxt g zs) else ⟨#[]⟩), .bool (okV g zs)]) ∧ Keep w w' := by
  cases hok : okV g zs
  · go_enter Tryd.func13, Tryd.ntmps13
    go_wp2_with fail
    refine (l01Is_any w.heap.size g ad cap zs _ (hz.keep (B := _) (by go_grown) (Nat.le_refl _)) (by simp) (by simp)).mono ?_
    rw [hok]
    rintro e w1 ⟨rfl, rfl⟩
    go_wp2
    go_ret2
    exact ⟨rfl, by go_grown⟩
  · have hl := okV_len hok
    have hd := okV_den hok
    have B0 : Box (w.alloc (.cells #[.int .i64 g, .slice ad zs.length cap] 40)) w.heap.size g ad zs.length cap := ⟨by simp, by simp, by simp⟩
    have HV := Lib.hid (l01VText_any w.heap.size g ad cap zs _ (hz.keep (B := _) (w' := w.alloc (.cells #[.int .i64 g, .slice ad zs.length cap] 40)) (by go_grown) (Nat.le_refl _)) ⟨by omega, by omega⟩ hl B0)
    have HI := Lib.hid (l01Is_any w.heap.size g ad cap zs _ (hz.keep (B := _) (w' := w.alloc (.cells #[.int .i64 g, .slice ad zs.length cap] 40)) (by go_grown) (Nat.le_refl _)) (by simp) (by simp))
    rw [hok] at HI
    clear hok hz B0
    go_enter Tryd.func13, Tryd.ntmps13
    go_wp2_with fail
    refine HI.out.mono ?_
    rintro e w1 ⟨rfl, rfl⟩
    go_wp2_with fail
    refine HV.out.mono ?_
    rintro e w1 ⟨rfl, k1⟩
    have g1 : Keep w w1 := Keep.next (by go_grown) k1
    go_wp2
    go_ret2
    exact ⟨rfl, g1⟩
end Go.Proofs.YtpdcmhnaedhkdaaDoor
