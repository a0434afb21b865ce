/- Lists of numbers read from their texts: the way through all parts. -/
import Derived.Test.YtpdcmhnaedhkdaaGreatDoorReadL
namespace Go.Proofs.YtpdcmhnaedhkdaaGreatDoor
open Go.ChangeShapes Go.WideShapes Go.ChangeAt Go.RowKit
set_option linter.unusedVariables false
set_option maxHeartbeats 1600000 in
set_option maxRecDepth 100000 in
theorem readParts_all (s : ByteArray) (w : World) (m : Int) (hs : s.size ≤ 1048576) (hv : LibVars w) (hm : w.cell? ⟨1, 0, none⟩ = some (.int .i64 m)) (hd : s.data.toList ≠ [45]) (hbig : ¬ 40 ≤ s.data.toList.count 44) :
    Calls Tryz.prog 63 #[.string s, .string ⟨#[44]⟩, .func (.func 49) #[] #[]] w (ListRead s.data.toList w) := by
  have HD := Lib.hid hd; clear hd
  have hge : ((Lib.countByte s.data.toList 44 : Nat) : Int) < 40 := by unfold Lib.countByte; omega
  have HSP := Lib.hid (Tryz.strings_Split s ⟨#[44]⟩ m w (by omega) hm (by decide))
  have hpl2 := congrArg List.length (splitB_parts s)
  rw [List.length_map, parts_len] at hpl2
  have HBP := Lib.hid (splitB_parts s)
  have hcl : Lib.countB s ⟨#[44]⟩ + 1 = (Lib.splitB ⟨#[44]⟩ 0 (Lib.countB s ⟨#[44]⟩) s).length := (Lib.splitB_all ⟨#[44]⟩ (by decide) 0 _ s rfl).symm
  rw [hcl] at HSP
  generalize Lib.splitB ⟨#[44]⟩ 0 (Lib.countB s ⟨#[44]⟩) s = ps at HSP hpl2 HBP
  have hpn : ps.length ≤ 40 := by omega
  clear hcl hpl2 hbig
  obtain ⟨i0, hi, hz0, hz1, hz2⟩ := info_parts Tryz.infoI
  have hb8 : i0.bytes * ps.length ≤ 281474976710656 := by rw [hz2]; omega
  have hml : ps.length ≤ maxLen := by unfold maxLen; omega
  obtain ⟨W1, hW1⟩ : ∃ W1, W1 = w.alloc (.cells (ps.map Value.string).toArray 9) := ⟨_, rfl⟩
  have hk1 : Keep w W1 := by rw [hW1]; go_grown
  have hcs : ∀ j x, ps[j]? = some x → W1.cell? ⟨w.heap.size, j, none⟩ = some (.string x) := by
    intro j x hx
    rw [hW1, World.cell?_alloc_at _ _ _ _ rfl]; simp [hx]
  have hsz : w.heap.size < W1.heap.size := by rw [hW1]; simp
  rw [← hW1] at HSP
  have HV1 := Lib.hid (hv.keep hk1)
  have HK1 := Lib.hid hk1
  have HCS := Lib.hid hcs
  clear hW1 hk1 hcs hv hm
  go_enter Tryz.func63, Tryz.ntmps63
  go_wp2_with (first | (go_at_call 81; refine HSP.out.mono ?_; rintro e w' ⟨rfl, hw⟩; rw [hw]; clear hw) | (at_make; refine wpList_make_full W1 rfl _ _ 24 rfl W1.heap.size 2 i0 (.int .i64 0) 1 Tryz.underlying24 hi hz0 hz1 .i64 .i64 _ _ ps.length rfl rfl rfl rfl hb8 hml (Nat.le_refl _) ?_))
  intro w0 hown0 hgrow0
  have hown0 : w0.ownsRow W1.heap.size 2 1 (.slice (some ⟨W1.heap.size, 0, none⟩) ps.length ps.length) ps.length (List.replicate ps.length (.int .i64 0)) := by simpa [Value.cells, toList_madeCells_one] using hown0
  have hk0 : Keep W1 w0 := (Below.refl _ _).grown hgrow0 (Nat.le_refl _) (fun k h => by cases h)
  clear hgrow0
  obtain ⟨B, hB⟩ : ∃ B, B = W1.heap.size := ⟨_, rfl⟩
  rw [← hB] at hown0 ⊢
  have HB := Lib.hid hB; clear hB
  obtain ⟨vs, hvs⟩ : ∃ vs : List Int, vs = ps.map fun p => rdV p.data.toList := ⟨_, rfl⟩
  have hvl : vs.length = ps.length := by rw [hvs, List.length_map]
  have HVL := Lib.hid hvl; clear hvl
  have HVS := Lib.hid hvs; clear hvs
  go_wp2
  go_loopw [10, 11, 12, 13, 22] (fun _ _ _ _ i wr => ∃ k : Nat, k ≤ ps.length ∧ i = .int .i64 k ∧ (∀ p ∈ ps.take k, rdOk p.data.toList = true) ∧ wr.ownsRow B 2 1 (.slice (some ⟨B, 0, none⟩) ps.length ps.length) ps.length (vals (vs.take k) ++ List.replicate (vs.length - k) (.int .i64 0)) ∧ Below B W1 wr)
    (fun _ _ _ _ i _ => ps.length - (intOf i).toNat)
  case atStart => exact ⟨0, Nat.zero_le _, rfl, by simp, by rw [HVL.out]; simpa using hown0, by rw [HB.out]; exact hk0⟩
  case round =>
    obtain ⟨k, hk, rfl, hall, hown, hbel⟩ := hrel
    have HA := Lib.hid hall; clear hall
    by_cases hlt : k < ps.length
    · obtain ⟨p, hp⟩ : ∃ p, ps[k]? = some p := ⟨ps[k], by simp [hlt]⟩
      have hcx : wr.cell? ⟨w.heap.size, k, none⟩ = some (.string p) := (hbel.cell (by show w.heap.size < B; rw [HB.out]; exact hsz)).trans (HCS.out k p hp)
      have hpm : p ∈ ps := List.mem_of_getElem? hp
      have hpp : p.data.toList ∈ parts s.data.toList := by rw [← HBP.out]; exact List.mem_map.2 ⟨p, hpm, rfl⟩
      have hps : p.size ≤ 1048576 := by
        have h1 := parts_short s.data.toList _ hpp
        have h2 : p.data.toList.length = p.size := Array.length_toList
        have h3 : s.data.toList.length = s.size := Array.length_toList
        omega
      have HBW := Lib.hid (show B < wr.heap.size from by
        rcases own_block hown with ⟨h, _⟩ | ⟨g, h, _, h2, _⟩
        · cases h
        · simp at h; omega)
      have HR := Lib.hid (readNumber_any p wr hps (HV1.out.keep (by have h := hbel; rw [HB.out] at h; exact h)))
      have HNO := Lib.hid (fun h : rdOk p.data.toList = false => show rdsOk s.data.toList = false from by
        have h1 : (parts s.data.toList).all rdOk = false := List.all_eq_false.2 ⟨_, hpp, by simp [h]⟩
        simp only [rdsOk, decide_eq_false HD.out, h1, Bool.and_false, Bool.or_self])
      have HX := Lib.hid (show vs[k]? = some (rdV p.data.toList) from by rw [HVS.out, List.getElem?_map, hp]; rfl)
      have HTK := Lib.hid (show ps.take (k + 1) = ps.take k ++ [p] from by rw [List.take_add_one, hp]; rfl)
      have HO := Lib.hid hown; clear hown
      have HL := Lib.hid hbel; clear hbel
      clear hp hpm hpp hps
      go_wp2_with (go_at_call 49; refine HR.out.mono ?_)
      rintro e w2 ⟨k2, ⟨h1, rfl⟩ | ⟨h1, h2, N, rfl⟩⟩
      · have HO2 := Lib.hid (World.ownsRow.kept (row := none) HO.out (keep_grown k2 none) (.inr (by simp [Value.ownBlock])))
        have HL2 := Lib.hid (HL.out.trans (k2.mono (Nat.le_of_lt HBW.out)))
        have H1 := Lib.hid h1; clear h1 k2
        have hvk : k < vs.length := by rw [HVL.out]; exact hlt
        have hcy : w2.cell? ⟨B, k, none⟩ = some (.int .i64 0) := by rw [HO2.out.cellAt k (by omega), fill_get vs k hvk]
        have hfy := HO2.out.frozenAt k
        have HST := Lib.hid (HO2.out.stored k (.int .i64 (rdV p.data.toList)))
        have HE := Lib.hid (show (vals (vs.take k) ++ List.replicate (vs.length - k) (Value.int .i64 0)).set k (Value.int .i64 (rdV p.data.toList)) = vals (vs.take (k + 1)) ++ List.replicate (vs.length - (k + 1)) (Value.int .i64 0) from by
          have h1 := fill_set vs k hvk (.int .i64 0)
          have h2 : vs.getD k 0 = rdV p.data.toList := by rw [List.getD_eq_getElem?_getD, HX.out]; rfl
          rw [h2] at h1; exact h1)
        generalize rdV p.data.toList = y at HST HE HX
        clear hvk
        go_wp2
        go_roundw
        case rel =>
          obtain ⟨s1, s2⟩ := HST.out
          rw [HE.out] at s1
          refine ⟨k + 1, by omega, by go_num, ?_, s1, HL2.out.setCell (Nat.le_refl _) _⟩
          intro q hq
          rw [HTK.out] at hq
          rcases List.mem_append.1 hq with h | h
          · exact HA.out q h
          · rw [List.mem_singleton.1 h]; exact H1.out
        case measure => simp [intOf]; omega
      · have HF := Lib.hid (HNO.out h1)
        have HL2 := Lib.hid (HL.out.trans (k2.mono (Nat.le_of_lt HBW.out)))
        clear h1 h2 k2
        go_wp2
        go_ret2
        refine ⟨?_, .inr ⟨HF.out, .inr ⟨_, N, rfl, by simp⟩⟩⟩
        have h1 := HL2.out
        rw [HB.out] at h1
        exact Keep0.step (HK1.out.next h1)
    · have HE := Lib.hid (show k = ps.length from by omega)
      have HO := Lib.hid hown; clear hown
      have HL := Lib.hid hbel; clear hbel
      go_wp2
      go_ret2
      have ha := HA.out
      rw [HE.out, List.take_length] at ha
      have hok : rdsOk s.data.toList = true := by
        have h1 : (parts s.data.toList).all rdOk = true := by
          rw [← HBP.out, List.all_map, List.all_eq_true]; exact ha
        have h2 : (parts s.data.toList).length ≤ 40 := by rw [← HBP.out, List.length_map]; exact hpn
        simp only [rdsOk, h1, decide_eq_true h2, Bool.and_self, Bool.or_true]
      have hv : rdsV s.data.toList = vs := by
        unfold rdsV
        rw [if_neg HD.out, if_pos hok, ← HBP.out, List.map_map, HVS.out]; rfl
      have h1 := HL.out
      rw [HB.out] at h1
      refine ⟨HK1.out.next h1, .inl ⟨hok, some ⟨B, 0, none⟩, ps.length, ?_, ?_⟩⟩
      · rw [hv, HVL.out]; rfl
      · rw [hv]
        refine Own.mono (B := B) ⟨?_, by rw [HVL.out]; omega, ?_⟩ (by rw [HB.out]; omega)
        · have h2 := HO.out
          rw [HE.out, HVL.out, Nat.sub_self, List.replicate_zero, List.append_nil, List.take_of_length_le (by rw [HVL.out]; omega)] at h2
          rw [HVL.out]; exact h2
        · intro z hz
          rw [HVS.out] at hz
          obtain ⟨q, hq, rfl⟩ := List.mem_map.1 hz
          exact rdV_in64 _
set_option maxHeartbeats 1600000 in
theorem readNumbers_all (s : ByteArray) (w : World) (m : Int) (hs : s.size ≤ 1048576) (hv : LibVars w) (hm : w.cell? ⟨1, 0, none⟩ = some (.int .i64 m)) (hd : s.data.toList ≠ [45]) (hbig : ¬ 40 ≤ s.data.toList.count 44) :
    Calls Tryz.prog 46 #[.string s] w (ListRead s.data.toList w) := by
  have hne := dash_ne hd
  have HP := Lib.hid (fun W (k : Keep w W) => readParts_all s W m hs (hv.keep k) ((k.cell (World.block_lt_of_cell? _ _ hm)).trans hm) hd hbig)
  have HC := Lib.hid (Tryz.strings_Count_one s 44 w)
  have hge : ((Lib.countByte s.data.toList 44 : Nat) : Int) < 40 := by unfold Lib.countByte; omega
  generalize Lib.countByte s.data.toList 44 = cb at HC hge
  clear hd hbig hm hv
  go_enter Tryz.func46, Tryz.ntmps46
  go_wp2_with (go_at_call 62; refine HC.out.mono ?_; rintro e w' ⟨rfl, hw⟩; rw [hw]; clear hw)
  refine (HP.out _ (by go_grown)).mono ?_
  rintro e w1 ⟨k1, ⟨h1, rd, rc, rfl, o1⟩ | ⟨h1, ⟨N, rfl⟩ | ⟨q, N, rfl, hc⟩⟩⟩
  · have O1 := Lib.hid o1; have H1 := Lib.hid h1; have K1 := Lib.hid k1
    clear o1 h1 k1
    go_wp2
    go_ret2
    exact ⟨K1.out, .inl ⟨H1.out, rd, rc, rfl, O1.out⟩⟩
  · have H1 := Lib.hid h1; have K1 := Lib.hid k1
    clear h1 k1
    go_wp2
    go_ret2
    exact ⟨K1.out, .inr ⟨H1.out, .inl ⟨N, rfl⟩⟩⟩
  · have H1 := Lib.hid h1; have K1 := Lib.hid k1; have HC1 := Lib.hid hc
    clear h1 k1 hc
    go_wp2
    go_ret2
    exact ⟨K1.out, .inr ⟨H1.out, .inr ⟨q, N, rfl, HC1.out⟩⟩⟩
theorem readNumbers_any (s : ByteArray) (w : World) (m : Int) (hs : s.size ≤ 1048576) (hv : LibVars w) (hm : w.cell? ⟨1, 0, none⟩ = some (.int .i64 m)) :
    Calls Tryz.prog 46 #[.string s] w (ListRead s.data.toList w) := by
  by_cases hd : s.data.toList = [45]
  · exact readNumbers_dash s w hd
  · by_cases hbig : 40 ≤ s.data.toList.count 44
    · exact readNumbers_many s w hd hbig
    · exact readNumbers_all s w m hs hv hm hd hbig
theorem rdsV_no {l : List UInt8} (h : rdsOk l = false) : rdsV l = [] := by
  unfold rdsV
  split
  · rfl
  · rw [if_neg (by rw [h]; simp)]
set_option maxHeartbeats 1600000 in
theorem ReadList_any (s : ByteArray) (w : World) (m : Int) (hs : s.size ≤ 1048576) (hv : LibVars w) (hm : w.cell? ⟨1, 0, none⟩ = some (.int .i64 m)) :
    Calls Tryz.prog 21 #[.string s] w fun e w' => ∃ rd rc, e = .returned (.tuple #[.slice rd (rdsV s.data.toList).length rc, .bool (rdsOk s.data.toList)]) ∧ Own w' w.heap.size rd rc (rdsV s.data.toList) ∧ Keep w w' := by
  have HR := Lib.hid (readNumbers_any s w m hs hv hm)
  have HV := Lib.hid hv
  clear hv hm
  go_enter Tryz.func21, Tryz.ntmps21
  go_wp2_with fail
  refine HR.out.mono ?_
  rintro e w1 ⟨k1, ⟨h1, rd, rc, rfl, o1⟩ | ⟨h1, ⟨N, rfl⟩ | ⟨q, N, rfl, hq⟩⟩⟩
  · have HO := Lib.hid o1; clear o1
    have H1 := Lib.hid h1; clear h1
    go_wp2_with fail
    refine (outcomeL_yes _ _ _ _).mono ?_
    rintro e w2 ⟨rfl, k2⟩
    go_wp2
    go_ret2
    exact ⟨rd, rc, by rw [H1.out]; rfl, HO.out.keep k2, Keep.next k1 k2⟩
  · have H1 := Lib.hid h1; clear h1
    have H2 := Lib.hid (rdsV_no H1.out)
    go_wp2_with fail
    refine (outcomeL_no0 _ _ _ (HV.out.keep k1)).mono ?_
    rintro e w2 ⟨rfl, k2⟩
    go_wp2
    go_ret2
    exact ⟨none, 0, by rw [H1.out, H2.out]; rfl, by rw [H2.out]; exact Own.nil _ _, Keep.next k1 k2⟩
  · have H1 := Lib.hid h1; clear h1
    have H2 := Lib.hid (rdsV_no H1.out)
    go_wp2_with fail
    refine (outcomeL_no1 _ _ _ _ (HV.out.keep k1) hq).mono ?_
    rintro e w2 ⟨rfl, k2⟩
    go_wp2
    go_ret2
    exact ⟨none, 0, by rw [H1.out, H2.out]; rfl, by rw [H2.out]; exact Own.nil _ _, Keep.next k1 k2⟩
end Go.Proofs.YtpdcmhnaedhkdaaGreatDoor
