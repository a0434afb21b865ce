/- Tables as texts. -/
import Derived.Test.YtpdcmhnaedhkdaaDoorJoinSpec
import Derived.Test.YtpdcmhnaedhkdaaDoorTabI
import Derived.Test.YtpdcmhnaedhkdaaDoorTab5
import Derived.Deep.RegionHeld3
namespace Go.Proofs.YtpdcmhnaedhkdaaDoor
open Go.ChangeShapes Go.WideShapes Go.ChangeAt Go.RowKit Go.Deep
set_option linter.unusedVariables false
/-- The text of rows, and that of a table. -/
def rtx (zss : List (List Int)) : List UInt8 := Lib.join (zss.map txt) [47]
def ttx (g : Int) (zss : List (List Int)) : List UInt8 := Lib.itoa g ++ (58 :: rtx zss)
theorem bstr_cat5 (a b : List UInt8) : bstr a ++ bstr b = bstr (a ++ b) := by unfold bstr; rw [ByteArray.mk_append_mk]; first | done | simp
theorem bstr_colon5 (a b : List UInt8) : bstr a ++ (⟨#[58]⟩ : ByteArray) ++ bstr b = bstr (a ++ (58 :: b)) := by
  show bstr a ++ bstr [58] ++ bstr b = _; rw [bstr_cat5, bstr_cat5]; simp
theorem txt_bound5 (zs : List Int) (h : ∀ z ∈ zs, In64 z) (hl : zs.length ≤ 5) : (txt zs).length ≤ 105 := by
  unfold txt
  split
  · simp
  · have := txt_len zs h
    omega
theorem rtx_step (zss : List (List Int)) (k : Nat) (h0 : 1 ≤ k) (h : k < zss.length) : rtx (zss.take (k + 1)) = rtx (zss.take k) ++ [47] ++ txt (zss.getD k []) := by
  unfold rtx
  cases zss with
  | nil => simp at h
  | cons z r =>
    obtain ⟨j, rfl⟩ : ∃ j, k = j + 1 := ⟨k - 1, by omega⟩
    have hj : j < r.length := by simpa using h
    have e : (r.map txt)[j]? = some (txt ((z :: r).getD (j + 1) [])) := by simp [List.getD_eq_getElem?_getD, hj]
    have h1 := Lib.joinTail_take_succ [47] (r.map txt) j _ e
    rw [List.take_succ_cons, List.take_succ_cons, List.map_cons, List.map_cons, Lib.join_cons, Lib.join_cons, List.map_take, List.map_take, h1]
    simp [List.append_assoc]
theorem rtx_one (zss : List (List Int)) (h : 0 < zss.length) : rtx (zss.take 1) = txt (zss.getD 0 []) := by
  cases zss with
  | nil => simp at h
  | cons z r => simp [rtx, Lib.join_one]
theorem rtx_len (zss : List (List Int)) (h : ∀ z ∈ zss, (txt z).length ≤ 105) : ∀ k, k ≤ zss.length → (rtx (zss.take k)).length ≤ 106 * k := by
  intro k hk
  induction k with
  | zero => simp [rtx, Lib.join_nil]
  | succ k ih =>
    have hz : (txt (zss.getD k [])).length ≤ 105 := h _ (by rw [getDD_get zss k (by omega)]; exact List.getElem_mem _)
    by_cases h0 : k = 0
    · subst h0; rw [Nat.zero_add, rtx_one zss (by omega)]; omega
    · rw [rtx_step zss k (by omega) (by omega)]
      have := ih (by omega)
      simp only [List.length_append, List.length_cons, List.length_nil]; omega
def rowTs (zss : List (List Int)) : List ByteArray := zss.map fun z => bstr (txt z)
theorem rowTs_lists (zss : List (List Int)) : (rowTs zss).map (·.data.toList) = zss.map txt := by simp [rowTs, bstr]
set_option maxHeartbeats 1600000 in
/-- The texts of the rows. -/
theorem mapped_txt (ad : Option Addr) (cap : Nat) (zss : List (List Int)) (w : World) (hz : Intss w ad zss) (hl : zss.length ≤ 1000) (hs : ∀ k, k < zss.length → (zss.getD k []).length ≤ 40) (hp : Pows w) :
    Calls Tryd.prog 47 #[.slice ad zss.length cap, .func (.func 39) #[] #[]] w fun e w' =>
      e = .returned (.slice (some ⟨w.heap.size, 0, none⟩) zss.length zss.length) ∧ w'.ownsRow w.heap.size 9 1 (.slice (some ⟨w.heap.size, 0, none⟩) zss.length zss.length) zss.length (svals (rowTs zss)) ∧ Keep w w' := by
  obtain ⟨i0, hi, hz0, hz1, hz2⟩ := info_parts Tryd.infoS
  have hb8 : i0.bytes * zss.length ≤ 281474976710656 := by rw [hz2]; omega
  have hml : zss.length ≤ maxLen := by unfold maxLen; omega
  have hvl : (svals (rowTs zss)).length = zss.length := by simp [rowTs]
  have HVL := Lib.hid hvl; clear hvl
  have HP := Lib.hid hp; clear hp
  have HSH := Lib.hid hs; clear hs
  go_enter Tryd.func47, Tryd.ntmps47
  go_wp2_with (at_make; refine wpList_make_full w rfl _ _ 24 rfl w.heap.size 9 i0 (.string ⟨#[]⟩) 1 Tryd.underlying24 hi hz0 hz1 .i64 .i64 _ _ zss.length rfl rfl rfl rfl hb8 hml (Nat.le_refl _) ?_)
  intro w0 hown0 hgrow0
  have hown0 : w0.ownsRow w.heap.size 9 1 (.slice (some ⟨w.heap.size, 0, none⟩) zss.length zss.length) zss.length (List.replicate zss.length (.string ⟨#[]⟩)) := by simpa [Value.cells, toList_madeCells_one] using hown0
  have hk0 : Keep w w0 := (Below.refl _ _).grown hgrow0 (Nat.le_refl _) (fun k h => by cases h)
  clear hgrow0
  obtain ⟨B, hB⟩ : ∃ B, B = w.heap.size := ⟨_, rfl⟩
  rw [← hB] at hown0 ⊢
  have HB := Lib.hid hB; clear hB
  have hlen := hz.small
  go_wp2
  go_loopw [6, 7, 13] (fun _ _ i wr => ∃ k : Nat, k ≤ zss.length ∧ i = .int .i64 k ∧ wr.ownsRow B 9 1 (.slice (some ⟨B, 0, none⟩) zss.length zss.length) zss.length ((svals (rowTs zss)).take k ++ List.replicate ((svals (rowTs zss)).length - k) (.string ⟨#[]⟩)) ∧ Below B w wr)
    (fun _ _ i _ => zss.length - (intOf i).toNat)
  case atStart => exact ⟨0, Nat.zero_le _, rfl, by rw [HVL.out]; simpa using hown0, by rw [HB.out]; exact hk0⟩
  case round =>
    obtain ⟨k, hk, rfl, hown, hbel⟩ := hrel
    by_cases hlt : k < zss.length
    · rcases (hz.keep hbel (by rw [HB.out]; exact Nat.le_refl _)).at_ with h | ⟨b, off, rfl, hb, hc⟩
      · subst h; simp at hlt
      obtain ⟨p, d, hcx, hpd, hin⟩ := hc k hlt
      have hBw : B < wr.heap.size := by
        rcases own_block hown with ⟨h, _⟩ | ⟨g, h, _, h2, _⟩
        · cases h
        · simp at h; omega
      have HBW := Lib.hid hBw; clear hBw
      have HX := Lib.hid (show (svals (rowTs zss))[k]? = some (.string (bstr (txt (zss.getD k [])))) from by simp [rowTs, List.getD_eq_getElem?_getD, hlt])
      have HDC := Lib.hid (joined_any p d (zss.getD k []) wr hin (HSH.out k hlt) (HP.out.keep (by have h := hbel; rw [HB.out] at h; exact h)))
      clear hc hin
      generalize zss.getD k [] = x at hcx hpd HX HDC
      have HO := Lib.hid hown; clear hown
      have HL := Lib.hid hbel; clear hbel
      go_wp2_with (go_at_call 39; refine HDC.out.mono ?_)
      rintro e w2 ⟨rfl, k2⟩
      have HO2 := Lib.hid (World.ownsRow.kept (row := none) HO.out (keep_grown k2 none) (.inr (by simp [Value.ownBlock])))
      have HL2 := Lib.hid (HL.out.trans (k2.mono (Nat.le_of_lt HBW.out)))
      have hcy : w2.cell? ⟨B, k, none⟩ = some (.string ⟨#[]⟩) := by rw [HO2.out.cellAt k (by omega), fillv_get _ k (by rw [HVL.out]; exact hlt)]
      have hfy := HO2.out.frozenAt k
      have HST := Lib.hid (HO2.out.stored k (.string (bstr (txt x))))
      have HE := Lib.hid (fillv_set (svals (rowTs zss)) k (by rw [HVL.out]; exact hlt) (.string ⟨#[]⟩) _ HX.out)
      go_wp2
      go_roundw
      case rel =>
        obtain ⟨s1, s2⟩ := HST.out
        rw [HE.out] at s1
        refine ⟨k + 1, by omega, by go_num, s1, ?_⟩
        exact HL2.out.setCell (Nat.le_refl _) _
      case measure => simp [intOf]; omega
    · go_wp2
      go_ret
      have he : k = zss.length := by omega
      subst he
      have e := HB.out
      subst e
      have h1 := HVL.out
      refine ⟨rfl, ?_, hbel⟩
      rw [h1, Nat.sub_self, List.replicate_zero, List.append_nil, List.take_of_length_le (by omega)] at hown
      exact hown
set_option maxHeartbeats 1600000 in
set_option maxRecDepth 100000 in
theorem TableText_any (g : Int) (ad : Option Addr) (cap : Nat) (zss : List (List Int)) (w : World) (hz : Intss w ad zss) (hp : Pows w) :
    Calls Tryd.prog 20 #[valV g ad zss.length cap] w fun e w' => e = .returned (.tuple #[.string (if tabB g zss then bstr (ttx g zss) else ⟨#[]⟩), .bool (tabB g zss)]) ∧ Keep w w' := by
  cases hok : tabB g zss
  · go_enter Tryd.func20, Tryd.ntmps20
    go_wp2_with fail
    refine (ValidTable_any g ad cap zss _ (hz.keep (B := _) (by go_grown) (Nat.le_refl _))).mono ?_
    rw [hok]
    rintro e w1 ⟨rfl, k1⟩
    have g1 : Keep w w1 := Keep.next (by go_grown) k1
    go_wp2
    go_ret2
    exact ⟨rfl, g1⟩
  · have hsz := tab_size hok
    have HTR := Lib.hid (fun k hk => tab_row hok (k := k) hk)
    have HG := Lib.hid (show In64 g from ⟨by omega, by omega⟩)
    have B0 : Box (w.alloc (.cells #[.int .i64 g, .slice ad zss.length cap] 49)) w.heap.size g ad zss.length cap := ⟨by simp, by simp, by simp⟩
    have hi := itoa_len g HG.out
    have HTB : Hid (∀ z ∈ zss, (txt z).length ≤ 105) := Lib.hid (fun z hz => by
      obtain ⟨j, hj, rfl⟩ := List.getElem_of_mem hz
      have h := HTR.out j hj
      rw [getDD_get zss j hj] at h
      exact txt_bound5 _ (fun x hx => by have := h.2 x hx; exact ⟨by omega, by omega⟩) (by omega))
    have ht : (rtx zss).length ≤ 530 := by have := rtx_len zss HTB.out zss.length (Nat.le_refl _); rw [List.take_length] at this; omega
    have HP := Lib.hid hp; clear hp
    have HZ := Lib.hid hz; clear hz
    have HS40 : Hid (∀ k, k < zss.length → (zss.getD k []).length ≤ 40) := Lib.hid (fun k hk => by have := (HTR.out k hk).1; omega)
    go_enter Tryd.func20, Tryd.ntmps20
    go_wp2_with fail
    refine (ValidTable_any g ad cap zss _ (HZ.out.keep (B := _) (by go_grown) (Nat.le_refl _))).mono ?_
    rw [hok]
    rintro e w1 ⟨rfl, k1⟩
    have g1 : Keep w w1 := Keep.next (by go_grown) k1
    obtain ⟨c0, c1, cl⟩ := B0.keep k1
    have G1 := Lib.hid g1
    clear k1 g1
    have hs1 : ((bstr (rtx zss)).size : Int) ≤ 530 := by rw [bstr_size]; omega
    have hs2 : ((bstr (Lib.itoa g)).size : Int) ≤ 20 := by rw [bstr_size]; omega
    have HV := Lib.hid (show bstr (ttx g zss) = bstr (Lib.itoa g) ++ (⟨#[58]⟩ : ByteArray) ++ bstr (rtx zss) from by rw [bstr_colon5]; rfl)
    have HDC := Lib.hid (fun W (k : Keep w1 W) => Decimal_tab g W HG.out (HP.out.keep (G1.out.next k)))
    rw [show (⟨(Lib.itoa g).toArray⟩ : ByteArray) = bstr (Lib.itoa g) from rfl] at HDC
    have HMC : Hid (∀ W, Keep w1 W → Calls Tryd.prog 47 #[.slice ad zss.length cap, .func (.func 39) #[] #[]] W fun e w' => ∃ B, e = .returned (.slice (some ⟨B, 0, none⟩) zss.length zss.length) ∧ w'.ownsRow B 9 1 (.slice (some ⟨B, 0, none⟩) zss.length zss.length) zss.length (svals (rowTs zss)) ∧ Keep W w') := Lib.hid (fun W k => (mapped_txt ad cap zss W (HZ.out.keep (G1.out.next k) (Nat.le_refl _)) (by omega) HS40.out (HP.out.keep (G1.out.next k))).mono fun _ _ ⟨a, b, c⟩ => ⟨_, a, b, c⟩)
    have HJC : Hid (∀ (W : World) B, W.ownsRow B 9 1 (.slice (some ⟨B, 0, none⟩) zss.length zss.length) zss.length (svals (rowTs zss)) → Calls Tryd.prog 46 #[.slice (some ⟨B, 0, none⟩) zss.length zss.length, .string ⟨#[47]⟩] W fun e w' => e = .returned (.string (bstr (rtx zss))) ∧ Keep W w') := Lib.hid (fun W B o => by
      have hdl : (rowTs zss).length = zss.length := by simp [rowTs]
      have hT : bstr (rtx zss) = ⟨(Lib.join ((rowTs zss).map (·.data.toList)) (⟨#[47]⟩ : ByteArray).data.toList).toArray⟩ := by rw [rowTs_lists]; rfl
      have hL : (Lib.join ((rowTs zss).map (·.data.toList)) (⟨#[47]⟩ : ByteArray).data.toList).length ≤ 140737488355328 := by
        rw [rowTs_lists]
        show (rtx zss).length ≤ _
        omega
      have h := Tryd.strings_Join B 0 zss.length (rowTs zss) ⟨#[47]⟩ W
        (fun j x hx => by
          have hj := (List.getElem?_eq_some_iff.1 hx).1
          rw [hdl] at hj
          rw [Nat.zero_add, o.cellAt j (by omega)]; simp [svals, hx])
        (by
          rcases own_block o with ⟨h, _⟩ | ⟨g, h, _, h2, _⟩
          · cases h
          · simp at h; omega)
        (by rw [hdl]; omega) (by rw [hdl]; exact Nat.le_refl _) hL
      rw [hdl, ← hT] at h
      exact h)
    have HS := Lib.hid (fun w' (k : Keep w1 w') => show (w'.cell? ⟨w.heap.size, 0, none⟩ = some (.int .i64 g) ∧ w'.cell? ⟨w.heap.size, 1, none⟩ = some (.slice ad zss.length cap)) ∧ Keep w1 w' from ⟨⟨((Box.mk c0 c1 cl).keep k).c0, ((Box.mk c0 c1 cl).keep k).c1⟩, k⟩)
    generalize bstr (rtx zss) = t1 at hs1 HV HJC
    generalize bstr (Lib.itoa g) = t2 at hs2 HV HDC
    have hn1 : ¬ 9223372036854775807 < t2.size + 1 := by omega
    have hn2 : ¬ 9223372036854775807 < t2.size + 1 + t1.size := by omega
    clear hs1 hs2 hi ht
    go_wp2_with fail
    go_region_held3 (fun w' => (w'.cell? ⟨w.heap.size, 0, none⟩ = some (.int .i64 g) ∧ w'.cell? ⟨w.heap.size, 1, none⟩ = some (.slice ad zss.length cap)) ∧ Keep w1 w')
      (first | exact HS.out _ (Keep.next (Keep.next (Keep.next (by go_grown) k2) k3) k4) | exact HS.out _ (Keep.next (Keep.next (by go_grown) k2) k3) | exact HS.out _ (Keep.next (by go_grown) k2) | exact HS.out _ (by go_grown))
      (first | (go_at_call 38; refine (HDC.out _ (by go_grown)).mono ?_; rintro e w2 ⟨rfl, k2⟩) | (go_at_call 47; refine (HMC.out _ (Keep.next (Keep.next (by go_grown) k2) (by go_grown))).mono ?_; rintro e w3 ⟨B3, rfl, o3, k3⟩) | (go_at_call 46; refine (HJC.out _ B3 o3).mono ?_; rintro e w4 ⟨rfl, k4⟩))
    all_goals go_wp2
    all_goals go_ret2
    all_goals exact ⟨by rw [HV.out]; rfl, G1.out.next (Keep.next (Keep.next (Keep.next (by go_grown) k2) k3) k4)⟩
set_option maxHeartbeats 1600000 in
set_option maxRecDepth 100000 in
theorem l05Text_any (B : Nat) (g : Int) (ad : Option Addr) (cap : Nat) (zss : List (List Int)) (w : World) (hz : Intss w ad zss) (hok : tabB g zss = true) (hb : Box w B g ad zss.length cap) :
    Calls Tryd.prog 43 #[.pointer (some ⟨B, 0, none⟩)] w fun e w' => e = .returned (.string (bstr (ttx g zss))) ∧ Keep w w' := by
  have hsz := tab_size hok
  have HTR := Lib.hid (fun k hk => tab_row hok (k := k) hk)
  have HBX := Lib.hid hb
  obtain ⟨c0, c1, cl⟩ := hb
  have HG := Lib.hid (show In64 g from ⟨by omega, by omega⟩)
  have hi := itoa_len g HG.out
  have HTB : Hid (∀ z ∈ zss, (txt z).length ≤ 105) := Lib.hid (fun z hz => by
    obtain ⟨j, hj, rfl⟩ := List.getElem_of_mem hz
    have h := HTR.out j hj
    rw [getDD_get zss j hj] at h
    exact txt_bound5 _ (fun x hx => by have := h.2 x hx; exact ⟨by omega, by omega⟩) (by omega))
  have HRL := Lib.hid (rtx_len zss HTB.out)
  have HZ := Lib.hid hz; clear hz
  have HDC := Lib.hid (fun W => l01Dec_any g W HG.out)
  rw [show (⟨(Lib.itoa g).toArray⟩ : ByteArray) = bstr (Lib.itoa g) from rfl] at HDC
  have HB58 : Hid (bstr (Lib.itoa g) ++ (⟨#[58]⟩ : ByteArray) = bstr (Lib.itoa g ++ [58])) := Lib.hid (by show bstr (Lib.itoa g) ++ bstr [58] = _; rw [bstr_cat5])
  have hs2 : ((bstr (Lib.itoa g)).size : Int) ≤ 20 := by rw [bstr_size]; omega
  have hs3 : (Lib.itoa g ++ [58]).length ≤ 21 := by simp; omega
  have HEN : Hid (ttx g zss = (Lib.itoa g ++ [58]) ++ rtx zss) := Lib.hid (by simp [ttx])
  rw [HEN.out]
  clear HEN hi
  generalize Lib.itoa g ++ [58] = D at *
  go_enter Tryd.func43, Tryd.ntmps43
  go_wp2_with (go_at_call 54; refine (HDC.out _).mono ?_; rintro e w1 ⟨rfl, k1⟩)
  have K1 := Lib.hid k1; clear k1
  rw [HB58.out]
  go_wp2
  go_loopw [3, 4] (fun o i wr => ∃ k : Nat, k ≤ zss.length ∧ i = .int .i64 k ∧ o = .string (bstr (D ++ rtx (zss.take k))) ∧ Hid (Keep w wr))
    (fun _ i _ => zss.length - (intOf i).toNat)
  case atStart => exact ⟨0, Nat.zero_le _, rfl, by simp [rtx, Lib.join_nil], K1⟩
  case round =>
    obtain ⟨k, hk, rfl, rfl, HK⟩ := hrel
    have hq1 := (HBX.out.keep HK.out).c0; have hq2 := (HBX.out.keep HK.out).c1
    have hrl := HRL.out k hk
    by_cases hlt : k < zss.length
    · rcases (HZ.out.keep HK.out (Nat.le_refl _)).at_ with h | ⟨b, off, rfl, hb, hc⟩
      · subst h; simp at hlt
      obtain ⟨p, d, hcx, hpd, hin⟩ := hc k hlt
      have hx := HTR.out k hlt
      have HTX := Lib.hid (l01Text_any p d (zss.getD k []) wr hin (by omega))
      have htl : (txt (zss.getD k [])).length ≤ 105 := HTB.out _ (by rw [getDD_get zss k hlt]; exact List.getElem_mem _)
      have hs1 : ((bstr (D ++ rtx (zss.take k))).size : Int) ≤ 600 := by rw [bstr_size]; simp; omega
      have hs4 : ((bstr (txt (zss.getD k []))).size : Int) ≤ 105 := by rw [bstr_size]; omega
      by_cases h0 : k = 0
      · have HST : Hid (bstr (D ++ rtx (zss.take k)) ++ bstr (txt (zss.getD k [])) = bstr (D ++ rtx (zss.take (k + 1)))) := Lib.hid (by
          subst h0; rw [bstr_cat5, Nat.zero_add, rtx_one zss hlt]; simp [rtx, Lib.join_nil])
        have hk0 : ¬ (0 : Int) < (k : Int) := by omega
        have H0 := Lib.hid h0
        clear hc hin hx hrl htl h0
        generalize zss.getD k [] = x at *
        generalize bstr (D ++ rtx (zss.take k)) = t1 at *
        generalize bstr (txt x) = t2 at *
        have hn1 : ¬ 9223372036854775807 < t1.size + t2.size := by omega
        go_wp2_with (go_at_call 63; refine HTX.out.mono ?_; rintro e w2 ⟨rfl, k2⟩)
        go_roundw
        case rel => exact ⟨k + 1, by omega, by go_num, by rw [HST.out], Lib.hid (HK.out.next k2)⟩
        case measure => simp [intOf]; omega
      · have HST : Hid (bstr (D ++ rtx (zss.take k)) ++ (⟨#[47]⟩ : ByteArray) ++ bstr (txt (zss.getD k [])) = bstr (D ++ rtx (zss.take (k + 1)))) := Lib.hid (by
          show bstr (D ++ rtx (zss.take k)) ++ bstr [47] ++ bstr (txt (zss.getD k [])) = _
          rw [bstr_cat5, bstr_cat5, rtx_step zss k (by omega) hlt]; simp)
        have hk0 : (0 : Int) < (k : Int) := by omega
        clear hc hin hx hrl htl h0
        generalize zss.getD k [] = x at *
        generalize bstr (D ++ rtx (zss.take k)) = t1 at *
        generalize bstr (txt x) = t2 at *
        have hn1 : ¬ 9223372036854775807 < t1.size + 1 := by omega
        have hn2 : ¬ 9223372036854775807 < t1.size + 1 + t2.size := by omega
        go_wp2_with (go_at_call 63; refine HTX.out.mono ?_; rintro e w2 ⟨rfl, k2⟩)
        go_roundw
        case rel => exact ⟨k + 1, by omega, by go_num, by rw [HST.out], Lib.hid (HK.out.next k2)⟩
        case measure => simp [intOf]; omega
    · have HE := Lib.hid (show zss.take k = zss from by rw [show k = zss.length by omega, List.take_length])
      go_wp2
      go_ret
      exact ⟨by rw [HE.out]; rfl, HK.out⟩
set_option maxHeartbeats 800000 in
theorem specTableText_any (g : Int) (ad : Option Addr) (cap : Nat) (zss : List (List Int)) (w : World) (hz : Intss w ad zss) :
    Calls Tryd.prog 18 #[valV g ad zss.length cap] w fun e w' => e = .returned (.tuple #[.string (if tabB g zss then bstr (ttx g zss) else ⟨#[]⟩), .bool (tabB g zss)]) ∧ Keep w w' := by
  have hbl : Keep w (w.alloc (.cells #[.int .i64 g, .slice ad zss.length cap] 49)) := by go_grown
  have B0 : Box (w.alloc (.cells #[.int .i64 g, .slice ad zss.length cap] 49)) w.heap.size g ad zss.length cap := ⟨by simp, by simp, by simp⟩
  have HI := Lib.hid (l05Is_any w.heap.size g ad cap zss _ (hz.keep hbl (Nat.le_refl _)) B0.c0 B0.c1)
  have HZ := Lib.hid (hz.keep hbl (Nat.le_refl _))
  have HBX := Lib.hid B0
  have HBL := Lib.hid hbl
  clear hz B0 hbl
  cases hok : tabB g zss
  · rw [hok] at HI
    go_enter Tryd.func18, Tryd.ntmps18
    go_wp2_with fail
    refine HI.out.mono ?_
    rintro e w1 ⟨rfl, k1⟩
    have g1 := Lib.hid (HBL.out.next k1)
    go_wp2
    go_ret2
    exact ⟨rfl, g1.out⟩
  · rw [hok] at HI
    have HV := Lib.hid (fun W (k : Keep _ W) => l05Text_any w.heap.size g ad cap zss W (HZ.out.keep k (Nat.le_refl _)) hok (HBX.out.keep k))
    go_enter Tryd.func18, Tryd.ntmps18
    go_wp2_with fail
    refine HI.out.mono ?_
    rintro e w1 ⟨rfl, k1⟩
    go_wp2_with fail
    refine (HV.out _ k1).mono ?_
    rintro e w2 ⟨rfl, k2⟩
    have g2 := Lib.hid ((HBL.out.next k1).next k2)
    go_wp2
    go_ret2
    exact ⟨rfl, g2.out⟩
end Go.Proofs.YtpdcmhnaedhkdaaDoor
