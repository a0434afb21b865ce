/- Journals: the model's. -/
import Derived.Test.YtpdcmhnaedhkdabDoorJrP11
import Derived.Test.YtpdcmhnaedhkdabDoorBten
import Derived.Deep.LoopGhost
import Derived.Deep.RegionHeld3
namespace Go.Proofs.YtpdcmhnaedhkdabDoor
open Go.ChangeShapes Go.WideShapes Go.ChangeAt Go.RowKit Go.Deep
set_option linter.unusedVariables false
theorem jr_step (o : List UInt8) (c : Int) (s : ByteArray) : bstr o ++ ((⟨(Lib.itoa c).toArray⟩ : ByteArray) ++ ⟨#[32]⟩ ++ s ++ ⟨#[10]⟩) = bstr (o ++ enL c s.data.toList) := by
  rw [enL_cat, bstr_cat2]
set_option maxHeartbeats 3200000 in
set_option maxRecDepth 100000 in
theorem l11Journal_any (ad : Option Addr) (cap : Nat) (zs : List ByteArray) (w : World) (hz : Txs w ad zs) (hn : zs.length ≤ 1048576) (ht : totT zs ≤ 1048576) :
    Calls Tryd.prog 14 #[.slice ad zs.length cap] w fun e w' => e = .returned (.string (bstr (jrT zs zs.length))) ∧ Keep w w' := by
  have HZ := Lib.hid hz
  have HJ0 : Hid (jrT zs 0 = []) := Lib.hid rfl
  have HC0 : Hid (ckT zs 0 = 0) := Lib.hid rfl
  have HCS : Hid (∀ k, ckT zs (k + 1) = chk (ckT zs k) (zs.getD k noT).data.toList) := Lib.hid (fun _ => rfl)
  have HJS : Hid (∀ k, jrT zs (k + 1) = jrT zs k ++ enL (ckT zs (k + 1)) (zs.getD k noT).data.toList) := Lib.hid (fun _ => rfl)
  have HCB := Lib.hid (ckT_bd zs)
  have HSZ := Lib.hid (fun k (h : k < zs.length) => Nat.le_trans (totT_mem (getT_mem zs k h)) ht)
  have HHI := Lib.hid (fun k (h : k ≤ zs.length) => show (jrT zs k).length ≤ 1048576 + 22 * 1048576 from by
    have h1 := jrT_high zs k h
    have h2 := totT_take_le zs k
    omega)
  clear hz ht
  go_enter Tryd.func14, Tryd.ntmps14
  go_wp2
  go_loopg [3, 4, 5] zs.length (fun kk o c i wr => ∃ k : Nat, k ≤ zs.length ∧ kk = zs.length - k ∧ i = .int .i64 k ∧ c = .int .i64 (ckT zs k) ∧ o = .string (bstr (jrT zs k)) ∧ Hid (Keep w wr))
  case atStart => exact ⟨0, Nat.zero_le _, rfl, rfl, by rw [HC0.out], by rw [HJ0.out]; rfl, Lib.hid (Below.refl _ _)⟩
  case round =>
    obtain ⟨k, hk, rfl, rfl, rfl, rfl, HK⟩ := hrel
    by_cases hlt : k < zs.length
    · rcases HZ.out.at_ with h | ⟨b, off, rfl, hb, hc⟩
      · subst h; simp at hlt
      have q := (HK.out.cell (p := ⟨b, off + k, none⟩) (by exact hb)).trans (hc k hlt)
      have hsz := HSZ.out k hlt
      have hhi := HHI.out k hk
      have HCk := Lib.hid (HCS.out k)
      have HJk := Lib.hid (HJS.out k)
      have hcb := HCB.out k
      have hcb1 := HCB.out (k + 1)
      have HS0 := Lib.hid (fun W (kk : Keep wr W) => (kk.cell (p := ⟨b, off + k, none⟩) (by exact World.block_lt_of_cell? _ _ q)).trans q)
      clear hc
      have HCHK := Lib.hid (fun W => l01Check_any (ckT zs k) (zs.getD k noT) W hcb.1 hcb.2 (by omega))
      rw [← HCk.out] at HCHK
      have HDC := Lib.hid (fun W => l01Dec_any (ckT zs (k + 1)) W ⟨by omega, by omega⟩)
      have hil := itoa_len (ckT zs (k + 1)) ⟨by omega, by omega⟩
      have HST := Lib.hid (jr_step (jrT zs k) (ckT zs (k + 1)) (zs.getD k noT))
      rw [← HJk.out] at HST
      have hd : (⟨(Lib.itoa (ckT zs (k + 1))).toArray⟩ : ByteArray).size ≤ 20 := by show (bstr (Lib.itoa (ckT zs (k + 1)))).size ≤ 20; rw [bstr_size2]; exact hil
      have ho : (bstr (jrT zs k)).size ≤ 1048576 + 22 * 1048576 := by rw [bstr_size2]; exact hhi
      generalize (⟨(Lib.itoa (ckT zs (k + 1))).toArray⟩ : ByteArray) = D at *
      generalize zs.getD k noT = x at *
      generalize bstr (jrT zs k) = o at *
      generalize ho2 : bstr (jrT zs (k + 1)) = o2 at *
      generalize hc1 : ckT zs (k + 1) = c1 at *
      have HO2 := Lib.hid ho2
      have HC1 := Lib.hid hc1
      clear ho2 hc1
      generalize ckT zs k = c0 at *
      have h1 : ¬ 9223372036854775807 < D.size + 1 := by omega
      have h2 : ¬ 9223372036854775807 < D.size + 1 + x.size := by omega
      have h3 : ¬ 9223372036854775807 < D.size + 1 + x.size + 1 := by omega
      have h4 : ¬ 9223372036854775807 < o.size + (D.size + 1 + x.size + 1) := by omega
      clear hil hhi hcb hcb1
      go_wp2_with (go_at_call 21; refine (HCHK.out _).mono ?_; rintro e w1 ⟨rfl, rfl⟩)
      have HS : Hid (∀ W, Keep wr W → W.cell? ⟨b, off + k, none⟩ = some (.string x) ∧ Keep wr W) := Lib.hid (fun W k' => ⟨HS0.out W k', k'⟩)
      go_region_held3 (fun w' => w'.cell? ⟨b, off + k, none⟩ = some (.string x) ∧ Keep wr w')
        (first | exact HS.out _ (Keep.next (by go_grown) k2) | exact HS.out _ (by go_grown))
        (first | (go_at_call 22; refine (HDC.out _).mono ?_; rintro e w2 ⟨rfl, k2⟩))
      go_wp2
      go_roundg (zs.length - (k + 1))
      case measure => omega
      case rel => exact ⟨k + 1, by omega, rfl, by go_num, by rw [HC1.out], by rw [HO2.out, ← HST.out], Lib.hid (HK.out.next (Keep.next (by go_grown) k2))⟩
    · have HE := Lib.hid (show k = zs.length by omega)
      go_wp2
      go_ret
      exact ⟨by rw [HE.out]; rfl, HK.out⟩
theorem noE_at {s : ByteArray} {t : Nat} (h : t < s.size) (e : (s[t]'h).toNat = 10) : noE s = false := by
  unfold noE
  rw [Bool.not_eq_false', List.contains_iff_mem]
  have : s[t]'h = 10 := UInt8.toNat_inj.1 (by rw [e]; rfl)
  rw [← this]
  exact Array.mem_toList_iff.2 (Array.getElem_mem _)
theorem noE_all {s : ByteArray} (h : ∀ t (ht : t < s.size), (s[t]'ht).toNat ≠ 10) : noE s = true := by
  unfold noE
  rw [Bool.not_eq_true', Bool.eq_false_iff]
  intro hc
  rw [List.contains_iff_mem] at hc
  obtain ⟨t, ht, e⟩ := Array.getElem_of_mem (Array.mem_toList_iff.1 hc)
  exact h t ht (by show (s.data[t]).toNat = 10; rw [e]; rfl)
set_option maxHeartbeats 3200000 in
set_option maxRecDepth 100000 in
theorem specJournalOf_any (ad : Option Addr) (cap : Nat) (zs : List ByteArray) (w : World) (hz : Txs w ad zs) (hn : zs.length ≤ 1048576) (ht : totT zs ≤ 1048576) :
    Calls Tryd.prog 6 #[.slice ad zs.length cap] w fun e w' => e = .returned (.tuple #[.string (jrV zs), .bool (okJ zs)]) ∧ Keep w w' := by
  have HZ := Lib.hid hz
  have HJN := Lib.hid (fun W (k : Keep w W) => l11Journal_any ad cap zs W (hz.keep k (Nat.le_refl _)) hn ht)
  have HLG := Lib.hid (fun k (h1 : k ≤ zs.length) (h2 : 4000 < totT (zs.take k) + 3 * k) => okJ_long h1 (Nat.lt_of_lt_of_le h2 (jrT_low zs k h1)))
  have HLN := Lib.hid (fun (h : 4000 < (jrT zs zs.length).length) => okJ_long (Nat.le_refl _) h)
  have HEN := Lib.hid (fun k (h1 : k < zs.length) h2 => okJ_end h1 h2)
  have HYS := Lib.hid (fun h1 h2 => okJ_yes (zs := zs) h1 h2)
  have HV0 : Hid (okJ zs = false → jrV zs = ⟨#[]⟩) := Lib.hid (fun h => by unfold jrV; rw [h]; rfl)
  have HV1 : Hid (okJ zs = true → jrV zs = bstr (jrT zs zs.length)) := Lib.hid (fun h => by unfold jrV; rw [h, if_pos rfl])
  have HTS := Lib.hid (fun k (h : k < zs.length) => totT_take_succ zs k h)
  have HSZ := Lib.hid (fun k (h : k < zs.length) => Nat.le_trans (totT_mem (getT_mem zs k h)) ht)
  have HTT := Lib.hid (fun k => Nat.le_trans (totT_take_le zs k) ht)
  have HT0 : Hid (totT (zs.take 0) = 0) := Lib.hid rfl
  generalize okJ zs = OK at *
  generalize jrV zs = JV at *
  clear hz ht
  go_enter Tryd.func6, Tryd.ntmps6
  go_wp2
  go_loopg [4, 5, 6] zs.length (fun kk s i _ wr => ∃ k : Nat, k ≤ zs.length ∧ kk = zs.length - k ∧ i = .int .i64 k ∧ s = .int .i64 ((totT (zs.take k) + 3 * k : Nat) : Int) ∧ wr = w ∧ Hid (∀ j, j < k → noE (zs.getD j noT) = true))
  case atStart => exact ⟨0, Nat.zero_le _, rfl, rfl, by rw [HT0.out]; rfl, rfl, Lib.hid (fun j h => by omega)⟩
  case round =>
    obtain ⟨k, hk, rfl, rfl, rfl, rfl, HA⟩ := hrel
    by_cases hlt : k < zs.length
    · rcases HZ.out.at_ with h | ⟨b, off, rfl, hb, hc⟩
      · subst h; simp at hlt
      have q := hc k hlt
      have hsz := HSZ.out k hlt
      have HTk := Lib.hid (HTS.out k hlt)
      have htk := HTT.out k
      have HLGk := Lib.hid (HLG.out (k + 1) (by omega))
      have HENk := Lib.hid (HEN.out k hlt)
      have HNX : Hid (noE (zs.getD k noT) = true → ∀ j, j < k + 1 → noE (zs.getD j noT) = true) := Lib.hid (fun hx j hj => by
        rcases Nat.lt_or_eq_of_le (Nat.le_of_lt_succ hj) with h1 | h1
        · exact HA.out j h1
        · rw [h1]; exact hx)
      clear hc
      generalize zs.getD k noT = x at *
      generalize totT (zs.take k) = tk at *
      have HS1 : Hid ((((totT (zs.take (k + 1)) + 3 * (k + 1) : Nat)) : Int) = ((tk + 3 * k : Nat) : Int) + ((x.size : Int) + 3)) := Lib.hid (by rw [HTk.out]; omega)
      have hb1 : ((tk + 3 * k : Nat) : Int) ≤ 1048576 + 3 * 1048576 := by omega
      have hb0 : 0 ≤ ((tk + 3 * k : Nat) : Int) := by omega
      by_cases h4 : 4000 < tk + 3 * k + (x.size + 3)
      · have HOK := Lib.hid (HLGk.out (by rw [HTk.out]; omega))
        have h4i : (4000 : Int) < ((tk + 3 * k : Nat) : Int) + ((x.size : Int) + 3) := by omega
        generalize ((tk + 3 * k : Nat) : Int) = s at *
        go_wp2
        go_ret2
        have h := HOK.out
        exact ⟨by rw [h, HV0.out h]; rfl, Below.refl _ _⟩
      · have h4i : ¬ (4000 : Int) < ((tk + 3 * k : Nat) : Int) + ((x.size : Int) + 3) := by omega
        generalize ((tk + 3 * k : Nat) : Int) = s at *
        go_wp2
        go_loopg [6] x.size (fun kk t wi => ∃ m : Nat, m ≤ x.size ∧ kk = x.size - m ∧ t = .int .i64 m ∧ wi = wr ∧ Hid (∀ j (hj : j < x.size), j < m → (x[j]'hj).toNat ≠ 10))
        case atStart => exact ⟨0, Nat.zero_le _, rfl, rfl, rfl, Lib.hid (fun j _ h => by omega)⟩
        case round =>
          obtain ⟨m, hm, rfl, rfl, rfl, HM⟩ := hrel
          by_cases hml : m < x.size
          · have HNA := Lib.hid (fun e => noE_at hml e)
            have hbt := (x[m]'hml).toNat_lt
            by_cases h10 : (x[m]'hml).toNat = 10
            · have HOK := Lib.hid (HENk.out (HNA.out h10))
              have h10b : (((x[m]'hml).toNat : Int) == 10) = true := by rw [h10]; rfl
              go_wp2
              go_ret2
              have h := HOK.out
              exact ⟨by rw [h, HV0.out h]; rfl, Below.refl _ _⟩
            · have h10b : (((x[m]'hml).toNat : Int) == 10) = false := by simp; omega
              have HM2 : Hid (∀ j (hj : j < x.size), j < m + 1 → (x[j]'hj).toNat ≠ 10) := Lib.hid (fun j hj h => by
                rcases Nat.lt_or_eq_of_le (Nat.le_of_lt_succ h) with h1 | h1
                · exact HM.out j hj h1
                · subst h1; exact h10)
              go_wp2
              go_roundg (x.size - (m + 1))
              case measure => omega
              case rel => exact ⟨m + 1, by omega, rfl, by go_num, rfl, HM2⟩
          · have HE := Lib.hid (show m = x.size by omega)
            have HNO : Hid (noE x = true) := Lib.hid (noE_all (fun t ht => HM.out t ht (by rw [HE.out]; exact ht)))
            go_wp2
            go_roundg (zs.length - (k + 1))
            case measure => omega
            case rel => exact ⟨k + 1, by omega, rfl, by go_num, by rw [HS1.out], rfl, Lib.hid (HNX.out HNO.out)⟩
    · have HE := Lib.hid (show k = zs.length by omega)
      have HJ := Lib.hid (HJN.out wr (Below.refl _ _))
      by_cases h4 : 4000 < (jrT zs zs.length).length
      · have HOK := Lib.hid (HLN.out h4)
        have h4i : (4000 : Int) < ((bstr (jrT zs zs.length)).size : Int) := by rw [bstr_size2]; omega
        generalize bstr (jrT zs zs.length) = J at *
        go_wp2_with (go_at_call 14; refine HJ.out.mono ?_; rintro e w1 ⟨rfl, k1⟩)
        go_ret2
        have h := HOK.out
        exact ⟨by rw [h, HV0.out h]; rfl, k1⟩
      · have HOK : Hid (OK = true) := Lib.hid (HYS.out (by omega) (fun j hj => HA.out j (by rw [HE.out]; exact hj)))
        have h4i : ¬ (4000 : Int) < ((bstr (jrT zs zs.length)).size : Int) := by rw [bstr_size2]; omega
        generalize bstr (jrT zs zs.length) = J at *
        go_wp2_with (go_at_call 14; refine HJ.out.mono ?_; rintro e w1 ⟨rfl, k1⟩)
        go_ret2
        have h := HOK.out
        exact ⟨by rw [h, HV1.out h]; rfl, k1⟩
end Go.Proofs.YtpdcmhnaedhkdabDoor
