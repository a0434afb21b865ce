/- Differences of running sums that are rounded: the model's side. -/
import Derived.Test.YtlenmhefgpcmmaaPrefix
namespace Go.Proofs.Ytlenmhefgpcmmaa
open Go.ChangeShapes Go.WideShapes Go.ChangeAt Go.RowKit
set_option linter.unusedVariables false
set_option maxHeartbeats 3200000 in
theorem specPrefixFloors_any (g : Int) (ad : Option Addr) (cap : Nat) (zs : List Int) (w : World) (hz : Ints w ad zs) :
    Calls Try.prog 29 #[valV g ad zs.length cap] w fun e w' =>
      ∃ rd rc, e = .returned (.tuple #[.slice rd (pdV fl g zs).length rc, .bool (okV g zs)]) ∧ Own w' w.heap.size rd rc (pdV fl g zs) ∧ Keep w w' := by
  have hbl : Below w.heap.size w (w.alloc (.cells #[.int .i64 g, .slice ad zs.length cap] 29)) := by go_grown
  have hbs : (w.alloc (.cells #[.int .i64 g, .slice ad zs.length cap] 29)).heap.size = w.heap.size + 1 := by simp
  cases hok : okV g zs
  · rw [show pdV fl g zs = [] from by simp [pdV, hok]]
    go_enter Try.func29, Try.ntmps29
    go_wp2_with fail
    refine (l01Is_any w.heap.size g ad cap zs _ (hz.keep hbl (Nat.le_refl _)) (by simp) (by simp)).mono ?_
    rw [hok]
    rintro e w' ⟨rfl, rfl⟩
    go_wp2
    go_ret2
    exact ⟨none, 0, rfl, Own.nil _ _, by go_grown⟩
  · have hg := okV_den hok
    have hl := okV_len hok
    have hnum := okV_num hok
    have HPS := Lib.hid (fun k => okV_psum hok k)
    have HST := Lib.hid (fun k h => sum_take_succ zs k h)
    have HPT := Lib.hid (fun k h => pdL_step fl g zs k h)
    have hpl := pdL_len fl g zs
    have hplt : (pdL fl g zs).take zs.length = pdL fl g zs := by rw [← pdL_len fl g zs, List.take_length]
    have hplk : ∀ k, k ≤ zs.length → ((pdL fl g zs).take k).length = k := fun k hk => by rw [List.length_take, pdL_len]; omega
    rw [show pdV fl g zs = pdL fl g zs from by simp [pdV, hok]]
    generalize pdL fl g zs = E at HPT hpl hplt hplk ⊢
    have HPL := Lib.hid hpl; have HPLT := Lib.hid hplt; have HPLK := Lib.hid hplk
    clear hpl hplt hplk
    go_enter Try.func29, Try.ntmps29
    go_wp2_with fail
    refine (l01Is_any w.heap.size g ad cap zs _ (hz.keep hbl (Nat.le_refl _)) (by simp) (by simp)).mono ?_
    rw [hok]
    rintro e w' ⟨rfl, rfl⟩
    have hlen := hz.small
    have hown0 : Own ((w.alloc (.cells #[.int .i64 g, .slice ad zs.length cap] 29)).alloc (.cells #[] 2)) (w.heap.size + 1) (some ⟨w.heap.size + 1, 0, none⟩) 0 [] := by
      have := World.ownsRow_lit (base := w.heap.size + 1) (e := 2) (size := 1) (w.alloc (.cells #[.int .i64 g, .slice ad zs.length cap] 29)) #[] 0 (by simp) (by simp) rfl
      exact ⟨by simpa using this, by simp, by simp⟩
    have hbl1 : Below (w.heap.size + 1) (w.alloc (.cells #[.int .i64 g, .slice ad zs.length cap] 29)) ((w.alloc (.cells #[.int .i64 g, .slice ad zs.length cap] 29)).alloc (.cells #[] 2)) := by go_grown
    have HX := Lib.hid (Box.mk (w := w.alloc (.cells #[.int .i64 g, .slice ad zs.length cap] 29)) (b := w.heap.size) (g := g) (ad := ad) (n := zs.length) (cap := cap) (by simp) (by simp) (by simp))
    go_wp2
    generalize hA : w.alloc (.cells #[.int .i64 g, .slice ad zs.length cap] 29) = wa at *
    clear hA
    go_loopw [4, 5, 6] (fun v s i wr => ∃ (k : Nat) (rd : Option Addr) (rc : Nat), k ≤ zs.length ∧ i = .int .i64 k ∧ v = .slice rd k rc ∧ s = .int .i64 (zs.take k).sum ∧ Own wr (w.heap.size + 1) rd rc (E.take k) ∧ Below (w.heap.size + 1) wa wr)
      (fun _ _ i _ => zs.length - (intOf i).toNat)
    case atStart => exact ⟨0, _, _, Nat.zero_le _, rfl, rfl, by simp, by simpa using hown0, hbl1⟩
    case round =>
      obtain ⟨k, rd, rc, hk, rfl, rfl, rfl, hown, hbel⟩ := hrel
      have hsz : w.heap.size + 1 ≤ wr.heap.size := by have := hbel.size; omega
      have hB : ∀ w', Below (w.heap.size + 1) wr w' → Box w' w.heap.size g ad zs.length cap := fun w' k => by
        have k2 := hbel.trans k
        exact ⟨by rw [k2.cell (by simp)]; exact HX.out.c0, by rw [k2.cell (by simp)]; exact HX.out.c1, by have := k2.size; omega⟩
      by_cases hlt : k < zs.length
      · rcases hz.at_ with h | ⟨b, off, rfl, hb, hc⟩
        · subst h; simp at hlt
        have hC : ∀ w', Below (w.heap.size + 1) wr w' → w'.cell? ⟨b, off + k, none⟩ = some (.int .i64 (zs.getD k 0)) := fun w' k2 => by
          rw [(hbel.trans k2).cell (by show b < _; omega), hbl.cell (by exact hb)]; exact hc k hlt
        have hxb := hnum (zs.getD k 0) (getD_mem zs k hlt)
        have HT := Lib.hid (HPT.out k hlt)
        have HS1 := Lib.hid (HST.out k hlt)
        have p1 := HPS.out k
        have p2 := HPS.out (k + 1)
        rw [HST.out k hlt] at p2
        have HKL := Lib.hid (HPLK.out k hk)
        clear hc hnum HX
        generalize zs.getD k 0 = x at hC hxb HS1 p2
        generalize (zs.take k).sum = s at p1 p2 HS1 HT
        have hfb := fl_bd1 (a := s) (b := g) (M := 40000000) hg.1 p1.1 p1.2 (by omega)
        have hfb2 := fl_bd1 (a := s + x) (b := g) (M := 40000000) hg.1 p2.1 p2.2 (by omega)
        have W1 : Hid (IntKind.i64.wrap (fl (s + x) g - fl s g) = fl (s + x) g - fl s g) := Lib.hid (IntWalk.i64_in _ (by omega))
        have HS : Hid (∀ w', Below (w.heap.size + 1) wr w' → (w'.cell? ⟨w.heap.size, 0, none⟩ = some (.int .i64 g) ∧ w'.cell? ⟨w.heap.size, 1, none⟩ = some (.slice (some ⟨b, off, none⟩) zs.length cap) ∧ w'.cell? ⟨b, off + k, none⟩ = some (.int .i64 x)) ∧ Below (w.heap.size + 1) wr w') :=
          Lib.hid (fun w' k => ⟨⟨(hB w' k).c0, (hB w' k).c1, hC w' k⟩, k⟩)
        have HB2 := Lib.hid hB
        obtain ⟨c0, c1, cl⟩ := hB wr (Below.refl _ _)
        have hcx := hC wr (Below.refl _ _)
        clear hB hC
        go_wp2
        go_region_held3 (fun w' => (w'.cell? ⟨w.heap.size, 0, none⟩ = some (.int .i64 g) ∧ w'.cell? ⟨w.heap.size, 1, none⟩ = some (.slice (some ⟨b, off, none⟩) zs.length cap) ∧ w'.cell? ⟨b, off + k, none⟩ = some (.int .i64 x)) ∧ Below (w.heap.size + 1) wr w')
          (first | exact HS.out _ hbel2 | exact HS.out _ (by go_grown))
          (first
            | (go_at_call 51; refine (l01Floor_any _ _ _ (by omega) (by omega) (by omega) (by omega)).mono ?_; rintro e w' ⟨rfl, rfl⟩)
            | (refine step_app1 (by rfl) _ _ (by rfl) (w.heap.size + 1) rd rc k _ (fl (s + x) g - fl s g) (by rfl) (hown.keep (by go_grown)) HKL.out.symm wr.heap.size (by rfl) (by simp [W1.out]) ⟨by omega, by omega⟩ (by rw [HKL.out]; omega) (by simp; omega) ?_; intro ad' cap' w1 hown1 hgr1; have hbel2 : Below (w.heap.size + 1) wr w1 := below_own (by go_grown) (hown.keep (by go_grown)) hgr1 (by simp; omega) (Nat.le_refl _)))
        go_wp2
        go_roundw
        case rel => exact ⟨k + 1, ad', cap', by omega, by go_num, rfl, by rw [HS1.out], by rw [HT.out, HS1.out]; exact hown1, hbel.trans hbel2⟩
        case measure => simp [intOf]; omega
      · have HK := Lib.hid (show k = zs.length from by omega)
        obtain ⟨c0, c1, cl⟩ := hB wr (Below.refl _ _)
        clear hB
        go_wp2
        go_ret2
        have h := HPL.out
        refine ⟨rd, rc, by rw [h, HK.out]; rfl, ?_, hbl.trans (hbel.mono (by omega))⟩
        rw [HK.out, HPLT.out] at hown
        exact hown.mono (by omega)
set_option maxHeartbeats 3200000 in
theorem specPrefixNearest_any (g : Int) (ad : Option Addr) (cap : Nat) (zs : List Int) (w : World) (hz : Ints w ad zs) :
    Calls Try.prog 30 #[valV g ad zs.length cap] w fun e w' =>
      ∃ rd rc, e = .returned (.tuple #[.slice rd (pdV ne g zs).length rc, .bool (okV g zs)]) ∧ Own w' w.heap.size rd rc (pdV ne g zs) ∧ Keep w w' := by
  have hbl : Below w.heap.size w (w.alloc (.cells #[.int .i64 g, .slice ad zs.length cap] 29)) := by go_grown
  have hbs : (w.alloc (.cells #[.int .i64 g, .slice ad zs.length cap] 29)).heap.size = w.heap.size + 1 := by simp
  cases hok : okV g zs
  · rw [show pdV ne g zs = [] from by simp [pdV, hok]]
    go_enter Try.func30, Try.ntmps30
    go_wp2_with fail
    refine (l01Is_any w.heap.size g ad cap zs _ (hz.keep hbl (Nat.le_refl _)) (by simp) (by simp)).mono ?_
    rw [hok]
    rintro e w' ⟨rfl, rfl⟩
    go_wp2
    go_ret2
    exact ⟨none, 0, rfl, Own.nil _ _, by go_grown⟩
  · have hg := okV_den hok
    have hl := okV_len hok
    have hnum := okV_num hok
    have HPS := Lib.hid (fun k => okV_psum hok k)
    have HST := Lib.hid (fun k h => sum_take_succ zs k h)
    have HPT := Lib.hid (fun k h => pdL_step ne g zs k h)
    have hpl := pdL_len ne g zs
    have hplt : (pdL ne g zs).take zs.length = pdL ne g zs := by rw [← pdL_len ne g zs, List.take_length]
    have hplk : ∀ k, k ≤ zs.length → ((pdL ne g zs).take k).length = k := fun k hk => by rw [List.length_take, pdL_len]; omega
    rw [show pdV ne g zs = pdL ne g zs from by simp [pdV, hok]]
    generalize pdL ne g zs = E at HPT hpl hplt hplk ⊢
    have HPL := Lib.hid hpl; have HPLT := Lib.hid hplt; have HPLK := Lib.hid hplk
    clear hpl hplt hplk
    go_enter Try.func30, Try.ntmps30
    go_wp2_with fail
    refine (l01Is_any w.heap.size g ad cap zs _ (hz.keep hbl (Nat.le_refl _)) (by simp) (by simp)).mono ?_
    rw [hok]
    rintro e w' ⟨rfl, rfl⟩
    have hlen := hz.small
    have hown0 : Own ((w.alloc (.cells #[.int .i64 g, .slice ad zs.length cap] 29)).alloc (.cells #[] 2)) (w.heap.size + 1) (some ⟨w.heap.size + 1, 0, none⟩) 0 [] := by
      have := World.ownsRow_lit (base := w.heap.size + 1) (e := 2) (size := 1) (w.alloc (.cells #[.int .i64 g, .slice ad zs.length cap] 29)) #[] 0 (by simp) (by simp) rfl
      exact ⟨by simpa using this, by simp, by simp⟩
    have hbl1 : Below (w.heap.size + 1) (w.alloc (.cells #[.int .i64 g, .slice ad zs.length cap] 29)) ((w.alloc (.cells #[.int .i64 g, .slice ad zs.length cap] 29)).alloc (.cells #[] 2)) := by go_grown
    have HX := Lib.hid (Box.mk (w := w.alloc (.cells #[.int .i64 g, .slice ad zs.length cap] 29)) (b := w.heap.size) (g := g) (ad := ad) (n := zs.length) (cap := cap) (by simp) (by simp) (by simp))
    go_wp2
    generalize hA : w.alloc (.cells #[.int .i64 g, .slice ad zs.length cap] 29) = wa at *
    clear hA
    go_loopw [4, 5, 6] (fun v s i wr => ∃ (k : Nat) (rd : Option Addr) (rc : Nat), k ≤ zs.length ∧ i = .int .i64 k ∧ v = .slice rd k rc ∧ s = .int .i64 (zs.take k).sum ∧ Own wr (w.heap.size + 1) rd rc (E.take k) ∧ Below (w.heap.size + 1) wa wr)
      (fun _ _ i _ => zs.length - (intOf i).toNat)
    case atStart => exact ⟨0, _, _, Nat.zero_le _, rfl, rfl, by simp, by simpa using hown0, hbl1⟩
    case round =>
      obtain ⟨k, rd, rc, hk, rfl, rfl, rfl, hown, hbel⟩ := hrel
      have hsz : w.heap.size + 1 ≤ wr.heap.size := by have := hbel.size; omega
      have hB : ∀ w', Below (w.heap.size + 1) wr w' → Box w' w.heap.size g ad zs.length cap := fun w' k => by
        have k2 := hbel.trans k
        exact ⟨by rw [k2.cell (by simp)]; exact HX.out.c0, by rw [k2.cell (by simp)]; exact HX.out.c1, by have := k2.size; omega⟩
      by_cases hlt : k < zs.length
      · rcases hz.at_ with h | ⟨b, off, rfl, hb, hc⟩
        · subst h; simp at hlt
        have hC : ∀ w', Below (w.heap.size + 1) wr w' → w'.cell? ⟨b, off + k, none⟩ = some (.int .i64 (zs.getD k 0)) := fun w' k2 => by
          rw [(hbel.trans k2).cell (by show b < _; omega), hbl.cell (by exact hb)]; exact hc k hlt
        have hxb := hnum (zs.getD k 0) (getD_mem zs k hlt)
        have HT := Lib.hid (HPT.out k hlt)
        have HS1 := Lib.hid (HST.out k hlt)
        have p1 := HPS.out k
        have p2 := HPS.out (k + 1)
        rw [HST.out k hlt] at p2
        have HKL := Lib.hid (HPLK.out k hk)
        clear hc hnum HX
        generalize zs.getD k 0 = x at hC hxb HS1 p2
        generalize (zs.take k).sum = s at p1 p2 HS1 HT
        have hfb := ne_bd (a := s) (b := g) (M := 40000000) hg.1 p1.1 p1.2 (by omega)
        have hfb2 := ne_bd (a := s + x) (b := g) (M := 40000000) hg.1 p2.1 p2.2 (by omega)
        have W1 : Hid (IntKind.i64.wrap (ne (s + x) g - ne s g) = ne (s + x) g - ne s g) := Lib.hid (IntWalk.i64_in _ (by omega))
        have HS : Hid (∀ w', Below (w.heap.size + 1) wr w' → (w'.cell? ⟨w.heap.size, 0, none⟩ = some (.int .i64 g) ∧ w'.cell? ⟨w.heap.size, 1, none⟩ = some (.slice (some ⟨b, off, none⟩) zs.length cap) ∧ w'.cell? ⟨b, off + k, none⟩ = some (.int .i64 x)) ∧ Below (w.heap.size + 1) wr w') :=
          Lib.hid (fun w' k => ⟨⟨(hB w' k).c0, (hB w' k).c1, hC w' k⟩, k⟩)
        have HB2 := Lib.hid hB
        obtain ⟨c0, c1, cl⟩ := hB wr (Below.refl _ _)
        have hcx := hC wr (Below.refl _ _)
        clear hB hC
        go_wp2
        go_region_held3 (fun w' => (w'.cell? ⟨w.heap.size, 0, none⟩ = some (.int .i64 g) ∧ w'.cell? ⟨w.heap.size, 1, none⟩ = some (.slice (some ⟨b, off, none⟩) zs.length cap) ∧ w'.cell? ⟨b, off + k, none⟩ = some (.int .i64 x)) ∧ Below (w.heap.size + 1) wr w')
          (first | exact HS.out _ hbel2 | exact HS.out _ (by go_grown))
          (first
            | (go_at_call 52; refine (l01Near_any _ _ _ (by omega) (by omega) (by omega) (by omega)).mono ?_; rintro e w' ⟨rfl, rfl⟩)
            | (refine step_app1 (by rfl) _ _ (by rfl) (w.heap.size + 1) rd rc k _ (ne (s + x) g - ne s g) (by rfl) (hown.keep (by go_grown)) HKL.out.symm wr.heap.size (by rfl) (by simp [W1.out]) ⟨by omega, by omega⟩ (by rw [HKL.out]; omega) (by simp; omega) ?_; intro ad' cap' w1 hown1 hgr1; have hbel2 : Below (w.heap.size + 1) wr w1 := below_own (by go_grown) (hown.keep (by go_grown)) hgr1 (by simp; omega) (Nat.le_refl _)))
        go_wp2
        go_roundw
        case rel => exact ⟨k + 1, ad', cap', by omega, by go_num, rfl, by rw [HS1.out], by rw [HT.out, HS1.out]; exact hown1, hbel.trans hbel2⟩
        case measure => simp [intOf]; omega
      · have HK := Lib.hid (show k = zs.length from by omega)
        obtain ⟨c0, c1, cl⟩ := hB wr (Below.refl _ _)
        clear hB
        go_wp2
        go_ret2
        have h := HPL.out
        refine ⟨rd, rc, by rw [h, HK.out]; rfl, ?_, hbl.trans (hbel.mono (by omega))⟩
        rw [HK.out, HPLT.out] at hown
        exact hown.mono (by omega)
end Go.Proofs.Ytlenmhefgpcmmaa
