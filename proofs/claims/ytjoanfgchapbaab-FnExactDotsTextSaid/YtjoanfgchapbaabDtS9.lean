/- The text of dots: the model's. -/
import Derived.Test.YtjoanfgchapbaabDt9
namespace Go.Proofs.Ytjoanfgchapbaab
open Go.ChangeShapes Go.WideShapes Go.ChangeAt Go.RowKit Go.Deep
set_option linter.unusedVariables false
set_option maxHeartbeats 3200000 in
set_option maxRecDepth 100000 in
theorem l09Text_any (ad : Option Addr) (cap : Nat) (zss : List (List Int)) (w : World) (hz : Intss w ad zss) (hg : gridB 12 1 zss = true) :
    Calls Try.prog 99 #[.slice ad zss.length cap] w fun e w' => e = .returned (.string (dstr (dT zss zss.length 0))) ∧ Keep w w' := by
  have gs := grid_size hg
  have HLN := Lib.hid (dT_len hg)
  have HGR := Lib.hid (fun k (h : k < zss.length) => (grid_row hg h).1)
  have HDO := Lib.hid (fun k j h1 h2 => dots_of hg (k := k) (j := j) h1 h2)
  have HST := Lib.hid (dT_step zss)
  have HRW := Lib.hid (dT_row zss)
  have HS0 : Hid ((⟨#[]⟩ : ByteArray) = dstr (dT zss 0 0)) := Lib.hid (by rw [dT_start]; rfl)
  have HZ := Lib.hid hz
  clear hz hg
  go_enter Try.func99, Try.ntmps99
  go_wp2
  go_loopg [3, 4] zss.length (fun kk o i wr => ∃ k : Nat, k ≤ zss.length ∧ kk = zss.length - k ∧ i = .int .i64 k ∧ o = .string (dstr (dT zss k 0)) ∧ Hid (Keep w wr))
  case atStart => exact ⟨0, Nat.zero_le _, rfl, rfl, by rw [← HS0.out], Lib.hid (by go_grown)⟩
  case round =>
    obtain ⟨k, hk, rfl, rfl, rfl, HK⟩ := hrel
    obtain ⟨wo, rfl⟩ : ∃ x, x = wr := ⟨wr, rfl⟩
    by_cases hlt : k < zss.length
    · rcases HZ.out.at_ with h | ⟨b, off, rfl, hb, hc⟩
      · subst h; simp at hlt
      obtain ⟨p, d, hcx, hpd, hin⟩ := hc k hlt
      have HQ := Lib.hid hcx
      have HIN := Lib.hid hin
      have hrl := HGR.out k hlt
      have HSTk := Lib.hid (HST.out k)
      have HRWk := Lib.hid (HRW.out k hlt)
      have HDOk := Lib.hid (fun j h => HDO.out k j hlt h)
      have HLNk := Lib.hid (fun j (h : j ≤ 12) => HLN.out k j hk h)
      clear hc hcx hpd hin
      have hx12 : (zss.getD k []).length ≤ 12 := by omega
      generalize zss.getD k [] = x at *
      clear hrl
      go_wp2
      go_loopg [3, 5] x.length (fun kk o j wi => ∃ t : Nat, t ≤ x.length ∧ kk = x.length - t ∧ j = .int .i64 t ∧ o = .string (dstr (dT zss k t)) ∧ Hid (Keep w wi))
      case atStart => exact ⟨0, Nat.zero_le _, rfl, rfl, rfl, HK⟩
      case round =>
        obtain ⟨t, ht, rfl, rfl, rfl, HK2⟩ := hrel
        have q := (HK2.out.cell (p := ⟨b, off + k, none⟩) (by exact hb)).trans HQ.out
        have hl := HLNk.out t (by omega)
        have hn1 : ¬ 9223372036854775807 < (dstr (dT zss k t)).size + 1 := by rw [dstr_size]; omega
        by_cases htm : t < x.length
        · rcases HIN.out.at_ with h | ⟨b2, off2, rfl, hb2, hc2⟩
          · rw [h] at htm; simp at htm
          have q2 := (HK2.out.cell (p := ⟨b2, off2 + t, none⟩) (by exact hb2)).trans (hc2 t htm)
          have HS := Lib.hid (HSTk.out t htm)
          have HOR := HDOk.out t htm
          clear hc2
          generalize x.getD t 0 = y at *
          rcases HOR with rfl | rfl
          · have HV : Hid (dstr (dT zss k t) ++ (⟨#[46]⟩ : ByteArray) = dstr (dT zss k (t + 1))) := Lib.hid (by show dstr _ ++ dstr [46] = _; rw [dstr_cat, HS.out]; rfl)
            clear HS
            generalize dstr (dT zss k t) = s0 at *
            go_wp2
            go_roundg (x.length - (t + 1))
            case measure => omega
            case rel => exact ⟨t + 1, by omega, rfl, by go_num, by rw [HV.out], Lib.hid (HK2.out.next (by go_grown))⟩
          · have HV : Hid (dstr (dT zss k t) ++ (⟨#[35]⟩ : ByteArray) = dstr (dT zss k (t + 1))) := Lib.hid (by show dstr _ ++ dstr [35] = _; rw [dstr_cat, HS.out]; rfl)
            clear HS
            generalize dstr (dT zss k t) = s0 at *
            go_wp2
            go_roundg (x.length - (t + 1))
            case measure => omega
            case rel => exact ⟨t + 1, by omega, rfl, by go_num, by rw [HV.out], Lib.hid (HK2.out.next (by go_grown))⟩
        · have HV : Hid (dstr (dT zss k t) ++ (⟨#[10]⟩ : ByteArray) = dstr (dT zss (k + 1) 0)) := Lib.hid (by show dstr _ ++ dstr [10] = _; rw [dstr_cat, show t = x.length by omega, HRWk.out])
          generalize dstr (dT zss k t) = s0 at *
          go_wp2
          go_roundg (zss.length - (k + 1))
          case measure => omega
          case rel => exact ⟨k + 1, by omega, rfl, by go_num, by rw [HV.out], Lib.hid (HK2.out.next (by go_grown))⟩
    · have HE := Lib.hid (show k = zss.length by omega)
      go_wp2
      go_ret
      exact ⟨by rw [HE.out]; rfl, HK.out.next (by go_grown)⟩
theorem specDotsText_any (ad : Option Addr) (cap : Nat) (zss : List (List Int)) (w : World) (hz : Intss w ad zss) :
    Calls Try.prog 53 #[.slice ad zss.length cap] w fun e w' => e = .returned (.tuple #[.string (dtS zss), .bool (gridB 12 1 zss)]) ∧ Keep w w' := by
  have HD := Lib.hid (l09Form_any 1 ad cap zss w hz)
  cases hg : gridB 12 1 zss
  · rw [hg] at HD
    rw [show dtS zss = ⟨#[]⟩ from by simp [dtS, hg]]
    clear hz
    go_enter Try.func53, Try.ntmps53
    go_wp2_with fail
    refine HD.out.mono ?_
    rintro e w1 ⟨rfl, k1⟩
    go_wp2
    go_ret2
    exact ⟨rfl, k1⟩
  rw [show dtS zss = dstr (dT zss zss.length 0) from by simp [dtS, hg]]
  have HT := Lib.hid (fun W (k : Keep w W) => l09Text_any ad cap zss W (hz.keep k (Nat.le_refl _)) hg)
  rw [hg] at HD
  clear hz hg
  generalize dstr (dT zss zss.length 0) = s0 at *
  go_enter Try.func53, Try.ntmps53
  go_wp2_with fail
  refine HD.out.mono ?_
  rintro e w1 ⟨rfl, k1⟩
  go_wp2_with fail
  refine (HT.out _ (k1.next (by go_grown))).mono ?_
  rintro e w2 ⟨rfl, k2⟩
  have kk : Keep w w2 := Keep.next (k1.next (by go_grown)) k2
  go_wp2
  go_ret2
  exact ⟨rfl, kk⟩
end Go.Proofs.Ytjoanfgchapbaab
