/- Values rounded: floors, ceilings, nearest. -/
import Derived.Test.YtpdcmhnaedhkdaaGreatDoorVals
import Derived.Deep.RegionHeld3
namespace Go.Proofs.YtpdcmhnaedhkdaaGreatDoor
open Go.ChangeShapes Go.WideShapes Go.ChangeAt Go.RowKit
set_option linter.unusedVariables false
def imgs (ok : Bool) (φ : Int → Int) (zs : List Int) : List Int := if ok then zs.map φ else []
def roundsV (φ : Int → Int → Int) (g : Int) (zs : List Int) : List Int := imgs (okV g zs) (fun z => φ z g) zs
theorem imgs_no (φ : Int → Int) (zs : List Int) : imgs false φ zs = [] := rfl
theorem imgs_yes (φ : Int → Int) (zs : List Int) : imgs true φ zs = zs.map φ := rfl
theorem fill_set_map (φ : Int → Int) (zs : List Int) (k : Nat) (h : k < zs.length) (z : Value) : (vals ((zs.take k).map φ) ++ List.replicate (zs.length - k) z).set k (.int .i64 (φ (zs.getD k 0))) = vals ((zs.take (k + 1)).map φ) ++ List.replicate (zs.length - (k + 1)) z := by
  have h1 := fill_set (zs.map φ) k (by simpa using h) z
  have e : (zs.map φ).getD k 0 = φ (zs.getD k 0) := by simp [List.getD_eq_getElem?_getD, h]
  rw [e, List.length_map, ← List.map_take, ← List.map_take] at h1
  exact h1
theorem fill_get_map (φ : Int → Int) (zs : List Int) (k : Nat) (h : k < zs.length) (z : Value) : (vals ((zs.take k).map φ) ++ List.replicate (zs.length - k) z)[k]? = some z := by
  have h1 := fill_get (zs.map φ) k (by simpa using h) z
  rw [List.length_map, ← List.map_take] at h1
  exact h1
set_option maxHeartbeats 1600000 in
/-- The images of a list under the closure of allDivided, whatever that computes. -/
theorem mapped_any (φ : Int → Int) (p1 p2 : Value) (ad : Option Addr) (cap : Nat) (zs : List Int) (w : World) (hz : Ints w ad zs) (hs : zs.length ≤ 1099511627776) (hin : ∀ z ∈ zs, In64 (φ z))
    (hf : ∀ x ∈ zs, ∀ W, Keep w W → Calls Tryz.prog 61 #[.int .i64 x, p1, p2] W fun e w' => e = .returned (.int .i64 (φ x)) ∧ W = w') :
    Calls Tryz.prog 60 #[.slice ad zs.length cap, .func (.func 61) #[] #[p1, p2]] w fun e w' =>
      ∃ rd rc, e = .returned (.slice rd (zs.map φ).length rc) ∧ Own w' w.heap.size rd rc (zs.map φ) ∧ Keep w w' := by
  obtain ⟨i0, hi, hz0, hz1, hz2⟩ := info_parts Tryz.infoI
  have hb8 : i0.bytes * zs.length ≤ 281474976710656 := by rw [hz2]; omega
  have hml : zs.length ≤ maxLen := by unfold maxLen; omega
  have HF := Lib.hid hf; clear hf
  go_enter Tryz.func60, Tryz.ntmps60
  go_wp2_with (at_make; refine wpList_make_full w rfl _ _ 24 rfl w.heap.size 2 i0 (.int .i64 0) 1 Tryz.underlying24 hi hz0 hz1 .i64 .i64 _ _ zs.length rfl rfl rfl rfl hb8 hml (Nat.le_refl _) ?_)
  intro w0 hown0 hgrow0
  have hown0 : w0.ownsRow w.heap.size 2 1 (.slice (some ⟨w.heap.size, 0, none⟩) zs.length zs.length) zs.length (List.replicate zs.length (.int .i64 0)) := by simpa [Value.cells, toList_madeCells_one] using hown0
  have hk0 : Keep w w0 := (Below.refl _ _).grown hgrow0 (Nat.le_refl _) (fun k h => by cases h)
  clear hgrow0
  obtain ⟨B, hB⟩ : ∃ B, B = w.heap.size := ⟨_, rfl⟩
  rw [← hB] at hown0 ⊢
  have HB := Lib.hid hB; clear hB
  have hlen := hz.small
  go_wp2
  go_loopw [6, 7, 13] (fun _ _ i wr => ∃ k : Nat, k ≤ zs.length ∧ i = .int .i64 k ∧ wr.ownsRow B 2 1 (.slice (some ⟨B, 0, none⟩) zs.length zs.length) zs.length (vals ((zs.take k).map φ) ++ List.replicate (zs.length - k) (.int .i64 0)) ∧ Below B w wr)
    (fun _ _ i _ => zs.length - (intOf i).toNat)
  case atStart => exact ⟨0, Nat.zero_le _, rfl, by simpa using hown0, by rw [HB.out]; exact hk0⟩
  case round =>
    obtain ⟨k, hk, rfl, hown, hbel⟩ := hrel
    by_cases hlt : k < zs.length
    · rcases hz.at_ with h | ⟨b, off, rfl, hb, hc⟩
      · subst h; simp at hlt
      have hcx : wr.cell? ⟨b, off + k, none⟩ = some (.int .i64 (zs.getD k 0)) := (hbel.cell (by show b < B; rw [HB.out]; exact hb)).trans (hc k hlt)
      have hcy : wr.cell? ⟨B, k, none⟩ = some (.int .i64 0) := by rw [hown.cellAt k (by omega), fill_get_map φ zs k hlt]
      have hmem : zs.getD k 0 ∈ zs := by rw [List.getD_eq_getElem?_getD, List.getElem?_eq_getElem hlt]; exact List.getElem_mem hlt
      have hfy := hown.frozenAt k
      have HST := Lib.hid (hown.stored k (.int .i64 (φ (zs.getD k 0))))
      have HE := Lib.hid (fill_set_map φ zs k hlt (.int .i64 0))
      have HFX := Lib.hid (HF.out (zs.getD k 0) hmem wr (by have h := hbel; rw [HB.out] at h; exact h))
      clear hc hmem
      generalize zs.getD k 0 = x at hcx HST HE HFX
      go_wp2_with (go_at_call 61; refine HFX.out.mono ?_; rintro e w' ⟨rfl, rfl⟩)
      go_roundw
      case rel =>
        obtain ⟨s1, s2⟩ := HST.out
        rw [HE.out] at s1
        refine ⟨k + 1, by omega, by go_num, s1, ?_⟩
        exact hbel.setCell (Nat.le_refl _) _
      case measure => simp [intOf]; omega
    · go_wp2
      go_ret
      have he : k = zs.length := by omega
      subst he
      have e := HB.out
      subst e
      refine ⟨some ⟨w.heap.size, 0, none⟩, zs.length, by simp, ⟨by simpa using hown, by simpa using hs, ?_⟩, hbel⟩
      intro z hz; obtain ⟨y, hy, rfl⟩ := List.mem_map.1 hz; exact hin y hy

set_option maxHeartbeats 1600000 in
theorem allDivided_any (φ : Int → Int) (F : Nat) (g : Int) (ad : Option Addr) (cap : Nat) (zs : List Int) (w : World) (hz : Ints w ad zs)
    (hin : okV g zs = true → ∀ z ∈ zs, In64 (φ z))
    (hf : okV g zs = true → ∀ x ∈ zs, ∀ W b1 b2, W.cell? ⟨b1, 0, none⟩ = some (.func (.func F) #[] #[]) → W.cell? ⟨b2, 0, none⟩ = some (.int .i64 g) →
      Calls Tryz.prog 61 #[.int .i64 x, .pointer (some ⟨b1, 0, none⟩), .pointer (some ⟨b2, 0, none⟩)] W fun e w' => e = .returned (.int .i64 (φ x)) ∧ W = w') :
    Calls Tryz.prog 41 #[valV g ad zs.length cap, .func (.func F) #[] #[]] w fun e w' =>
      ∃ rd rc, e = .returned (.tuple #[.slice rd (imgs (okV g zs) φ zs).length rc, .bool (okV g zs)]) ∧ Own w' w.heap.size rd rc (imgs (okV g zs) φ zs) ∧ Keep w w' := by
  have HF := Lib.hid hf; clear hf
  have HI := Lib.hid hin; clear hin
  have B0 : Box ((w.alloc (.cells #[.int .i64 g, .slice ad zs.length cap] 26)).alloc (.cells #[.func (.func F) #[] #[]] 54)) w.heap.size g ad zs.length cap := ⟨by simp, by simp, by simp; omega⟩
  have F0 : ((w.alloc (.cells #[.int .i64 g, .slice ad zs.length cap] 26)).alloc (.cells #[.func (.func F) #[] #[]] 54)).cell? ⟨w.heap.size + 1, 0, none⟩ = some (.func (.func F) #[] #[]) := by simp
  have HX := Lib.hid (And.intro B0 F0); clear B0 F0
  cases hok : okV g zs
  all_goals simp only [imgs_no, imgs_yes]
  · go_enter Tryz.func41, Tryz.ntmps41
    go_wp2_with fail
    refine (ValidValues_any g ad cap zs _ (hz.keep (B := _) (by go_grown) (Nat.le_refl _))).mono ?_
    rw [hok]
    rintro e w1 ⟨rfl, k1⟩
    have g1 : Keep w w1 := Keep.next (by go_grown) k1
    go_wp2
    go_ret2
    exact ⟨none, 0, rfl, Own.nil _ _, g1⟩
  · have hl := okV_len hok
    go_enter Tryz.func41, Tryz.ntmps41
    go_wp2_with fail
    refine (ValidValues_any g ad cap zs _ (hz.keep (B := _) (by go_grown) (Nat.le_refl _))).mono ?_
    rw [hok]
    rintro e w1 ⟨rfl, k1⟩
    have g1 : Keep w w1 := Keep.next (by go_grown) k1
    have b1 := HX.out.1.keep k1
    have f1 := (k1.cell (p := ⟨w.heap.size + 1, 0, none⟩) (by simp)).trans HX.out.2
    clear k1
    obtain ⟨c0, c1, cl⟩ := b1
    have HB := Lib.hid (And.intro (Box.mk c0 c1 cl) f1)
    go_wp2_with fail
    refine (mapped_any φ _ _ ad cap zs _ (hz.keep g1 (Nat.le_refl _)) (by omega) (HI.out hok) (fun x hx W k => ?_)).mono ?_
    · have b2 := HB.out.1.keep k
      exact HF.out hok x hx W _ _ ((k.cell (p := ⟨w.heap.size + 1, 0, none⟩) (World.block_lt_of_cell? _ _ HB.out.2)).trans HB.out.2) b2.c0
    rintro e w2 ⟨rd, rc, rfl, o2, k2⟩
    have g2 := Keep.next g1 k2
    have o3 := o2.mono (B' := w.heap.size) g1.size
    go_wp2
    go_ret2
    exact ⟨rd, rc, by simp, o3, g2⟩
theorem clos_fl (x g : Int) (b1 b2 : Nat) (w : World) (c1 : w.cell? ⟨b1, 0, none⟩ = some (.func (.func 42) #[] #[])) (c2 : w.cell? ⟨b2, 0, none⟩ = some (.int .i64 g)) (hg : 1 ≤ g) (hg2 : g ≤ 1000) (hx : -1000000 ≤ x) (hx2 : x ≤ 1000000) :
    Calls Tryz.prog 61 #[.int .i64 x, .pointer (some ⟨b1, 0, none⟩), .pointer (some ⟨b2, 0, none⟩)] w fun e w' => e = .returned (.int .i64 (fl x g)) ∧ w = w' := by
  go_enter Tryz.func61, Tryz.ntmps61
  go_wp2_with (go_at_call 42; refine (floorOf_any x g _ (by omega) (by omega) (by omega) (by omega)).mono ?_; rintro e w' ⟨rfl, rfl⟩)
  go_ret
  exact ⟨rfl, rfl⟩
set_option maxHeartbeats 1600000 in
theorem FloorsOf_any (g : Int) (ad : Option Addr) (cap : Nat) (zs : List Int) (w : World) (hz : Ints w ad zs) :
    Calls Tryz.prog 13 #[valV g ad zs.length cap] w fun e w' =>
      ∃ rd rc, e = .returned (.tuple #[.slice rd (roundsV fl g zs).length rc, .bool (okV g zs)]) ∧ Own w' w.heap.size rd rc (roundsV fl g zs) ∧ Keep w w' := by
  go_enter Tryz.func13, Tryz.ntmps13
  go_wp2_with fail
  refine (allDivided_any (fun z => fl z g) 42 g ad cap zs _ (hz.keep (B := _) (by go_grown) (Nat.le_refl _)) (fun hok x hx => ?_) (fun hok x hx W b1 b2 c1 c2 => ?_)).mono ?_
  · have hg := okV_den hok
    have hx2 := okV_num hok x hx
    have := fl_bd (a := x) (b := g) (M := 1000000) (by omega) (by omega) (by omega) (by omega)
    exact ⟨by omega, by omega⟩
  · have hg := okV_den hok
    have hx2 := okV_num hok x hx
    exact clos_fl x g b1 b2 W c1 c2 (by omega) (by omega) (by omega) (by omega)
  rintro e w1 ⟨rd, rc, rfl, ho, hk⟩
  have hk1 : Keep w w1 := Keep.next (by go_grown) hk
  have ho1 := ho.mono (B' := w.heap.size) (by simp)
  go_wp2
  go_ret2
  exact ⟨rd, rc, rfl, ho1, hk1⟩
theorem clos_ce (x g : Int) (b1 b2 : Nat) (w : World) (c1 : w.cell? ⟨b1, 0, none⟩ = some (.func (.func 43) #[] #[])) (c2 : w.cell? ⟨b2, 0, none⟩ = some (.int .i64 g)) (hg : 1 ≤ g) (hg2 : g ≤ 1000) (hx : -1000000 ≤ x) (hx2 : x ≤ 1000000) :
    Calls Tryz.prog 61 #[.int .i64 x, .pointer (some ⟨b1, 0, none⟩), .pointer (some ⟨b2, 0, none⟩)] w fun e w' => e = .returned (.int .i64 (ce x g)) ∧ w = w' := by
  go_enter Tryz.func61, Tryz.ntmps61
  go_wp2_with (go_at_call 43; refine (ceilingOf_any x g _ (by omega) (by omega) (by omega) (by omega)).mono ?_; rintro e w' ⟨rfl, rfl⟩)
  go_ret
  exact ⟨rfl, rfl⟩
set_option maxHeartbeats 1600000 in
theorem CeilingsOf_any (g : Int) (ad : Option Addr) (cap : Nat) (zs : List Int) (w : World) (hz : Ints w ad zs) :
    Calls Tryz.prog 14 #[valV g ad zs.length cap] w fun e w' =>
      ∃ rd rc, e = .returned (.tuple #[.slice rd (roundsV ce g zs).length rc, .bool (okV g zs)]) ∧ Own w' w.heap.size rd rc (roundsV ce g zs) ∧ Keep w w' := by
  go_enter Tryz.func14, Tryz.ntmps14
  go_wp2_with fail
  refine (allDivided_any (fun z => ce z g) 43 g ad cap zs _ (hz.keep (B := _) (by go_grown) (Nat.le_refl _)) (fun hok x hx => ?_) (fun hok x hx W b1 b2 c1 c2 => ?_)).mono ?_
  · have hg := okV_den hok
    have hx2 := okV_num hok x hx
    have := ce_bd (a := x) (b := g) (M := 1000000) (by omega) (by omega) (by omega) (by omega)
    exact ⟨by omega, by omega⟩
  · have hg := okV_den hok
    have hx2 := okV_num hok x hx
    exact clos_ce x g b1 b2 W c1 c2 (by omega) (by omega) (by omega) (by omega)
  rintro e w1 ⟨rd, rc, rfl, ho, hk⟩
  have hk1 : Keep w w1 := Keep.next (by go_grown) hk
  have ho1 := ho.mono (B' := w.heap.size) (by simp)
  go_wp2
  go_ret2
  exact ⟨rd, rc, rfl, ho1, hk1⟩
theorem clos_ne (x g : Int) (b1 b2 : Nat) (w : World) (c1 : w.cell? ⟨b1, 0, none⟩ = some (.func (.func 44) #[] #[])) (c2 : w.cell? ⟨b2, 0, none⟩ = some (.int .i64 g)) (hg : 1 ≤ g) (hg2 : g ≤ 1000) (hx : -1000000 ≤ x) (hx2 : x ≤ 1000000) :
    Calls Tryz.prog 61 #[.int .i64 x, .pointer (some ⟨b1, 0, none⟩), .pointer (some ⟨b2, 0, none⟩)] w fun e w' => e = .returned (.int .i64 (ne x g)) ∧ w = w' := by
  go_enter Tryz.func61, Tryz.ntmps61
  go_wp2_with (go_at_call 44; refine (nearestOf_any x g _ (by omega) (by omega) (by omega) (by omega)).mono ?_; rintro e w' ⟨rfl, rfl⟩)
  go_ret
  exact ⟨rfl, rfl⟩
set_option maxHeartbeats 1600000 in
theorem NearestOf_any (g : Int) (ad : Option Addr) (cap : Nat) (zs : List Int) (w : World) (hz : Ints w ad zs) :
    Calls Tryz.prog 15 #[valV g ad zs.length cap] w fun e w' =>
      ∃ rd rc, e = .returned (.tuple #[.slice rd (roundsV ne g zs).length rc, .bool (okV g zs)]) ∧ Own w' w.heap.size rd rc (roundsV ne g zs) ∧ Keep w w' := by
  go_enter Tryz.func15, Tryz.ntmps15
  go_wp2_with fail
  refine (allDivided_any (fun z => ne z g) 44 g ad cap zs _ (hz.keep (B := _) (by go_grown) (Nat.le_refl _)) (fun hok x hx => ?_) (fun hok x hx W b1 b2 c1 c2 => ?_)).mono ?_
  · have hg := okV_den hok
    have hx2 := okV_num hok x hx
    have := ne_bd (a := x) (b := g) (M := 1000000) (by omega) (by omega) (by omega) (by omega)
    exact ⟨by omega, by omega⟩
  · have hg := okV_den hok
    have hx2 := okV_num hok x hx
    exact clos_ne x g b1 b2 W c1 c2 (by omega) (by omega) (by omega) (by omega)
  rintro e w1 ⟨rd, rc, rfl, ho, hk⟩
  have hk1 : Keep w w1 := Keep.next (by go_grown) hk
  have ho1 := ho.mono (B' := w.heap.size) (by simp)
  go_wp2
  go_ret2
  exact ⟨rd, rc, rfl, ho1, hk1⟩
end Go.Proofs.YtpdcmhnaedhkdaaGreatDoor
